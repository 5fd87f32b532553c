/-
  The walk of laws.FnExactDhcid.
-/
import Derived.Test.YtkmjghecjlgjpaaDoorDhcidG02
import Derived.Test.YtkmjghecjlgjpaaDoorDhcidG04
import Derived.Test.YtkmjghecjlgjpaaDoorDhcidG05
import Derived.Test.YtkmjghecjlgjpaaDoorDhcidG26
import Derived.Test.YtkmjghecjlgjpaaDoorDhcidG30
import Derived.Deep.RegionHeld3
namespace Go.Proofs.YtkmjghecjlgjpaaDoor
open Go.RowKit
set_option linter.unusedVariables false

set_option maxHeartbeats 4000000 in
set_option maxRecDepth 100000 in
theorem lawDhcid (a0 : Option Addr) (cap0 : Nat) (l0 : List Int) (a1 : Option Addr) (cap1 : Nat) (n1 : List (List Int)) (w : World) (h0 : Lies w a0 l0) (hm0 : l0.length ≤ maxLen) (h1 : LiesL w a1 n1) (hm1 : n1.length ≤ maxLen) (hmm1 : ∀ i, i < n1.length → (n1.getD i []).length ≤ maxLen) (h8 : Bytes8 l0) (hF : TabW w 0 (l8 iv8)) (hG : TabW w 1 kW) :
  Calls Tryd.prog 7 #[.slice a0 l0.length cap0, .agg #[.slice a1 n1.length cap1]] w fun e w' => e = .returned (.bool true) ∧ Below w.heap.size w w' := by
 have bb := below_alloc (w := w) (.cells #[.slice a1 n1.length cap1] 36)
 have K1 := heap_alloc_new w (.cells #[.slice a1 n1.length cap1] 36)
 replace K1 := hide K1
 by_cases hbig0 : 1048576 < l0.length
 ·unfold maxLen at hm0
  clear h0 h1 K1
  go_enter Tryd.func7, Tryd.ntmps7
  go_wp2_with fail
  go_ret
  exact ⟨rfl, bb⟩
 have hl0 : l0.length ≤ 1048576 := by omega
 have L0 := hide h0
 clear h0 hbig0 hm0
 have L1 := hide h1
 have HM1 := hide hmm1
 clear h1 hmm1
 go_enter Tryd.func7, Tryd.ntmps7
 go_wp2_with fail
 generalize w.alloc (.cells #[.slice a1 n1.length cap1] 36) = W at *
 have zk1 := block_lt (unhide K1)
 refine (szName_any a1 cap1 n1 1048576 _ ((unhide L1).below bb) hm1 (unhide HM1) (by omega) (by omega)).mono ?_
 rintro e w1 ⟨⟨r1, rfl, hr01, hr11, hr21⟩, b1⟩
 replace bb := below_next bb b1
 replace K1 := hide (block_kept b1 (unhide K1))
 have z1 := b1.size
 clear b1
 by_cases hneg1 : r1 < 0
 ·clear hr21
  go_wp2_with fail
  go_ret
  exact ⟨rfl, bb⟩
 obtain ⟨hn1, hn2⟩ := hr21 (by omega)
 have hl1 : n1.length ≤ 1048576 := by omega
 have HL1 := hide (show ∀ i, i < n1.length → (n1.getD i []).length ≤ 1048576 from fun i hi => by have := hn2 i hi; omega)
 have HLL1 := hide (show ∀ i, i < n1.length → (n1.getD i []).length ≤ 2097152 from fun i hi => by have := hn2 i hi; omega)
 clear hr21 hn1 hn2 hm1 HM1
 have hP1 : (1 + (l0.length : Int)) ≤ pos n1 (1 + (l0.length : Int)) n1.length ∧ pos n1 (1 + (l0.length : Int)) n1.length ≤ (1 + (l0.length : Int)) + 1099511627776 := by
  have h1 := pos_le n1 (1 + (l0.length : Int)) 1048576 (unhide HL1) n1.length (Nat.le_refl _)
  have h2 : n1.length * 1048576 ≤ 1048576 * 1048576 := Nat.mul_le_mul_right _ hl1
  omega
 have MK1 := fun (B E : Nat) (v : Value) (w : World) (h : OwnN B E 22 5 w v n1) => markName_any (1 + (l0.length : Int)) h hl1 (unhide HL1) (by omega) (by omega)
 generalize pos n1 (1 + (l0.length : Int)) n1.length = P1 at *
 replace MK1 := hide MK1
 have hPn1 : ¬ P1 < 0 := by omega
 have hG0 := dhcidOf_length l0 n1
 have SP := fun (w : World) (x0 : Value) (h0 : Has w x0 l0) (x1 : Value) (h1 : HasL w x1 n1) => specDhcid_has h0 hl0 h8 h1
 have IM := fun (w' : World) (hb : Below w.heap.size w w') (x0 : Value) (h0 : Has w' x0 l0) (x1 : Value) (h1 : HasL w' x1 n1) => implDhcid_has h0 hl0 h8 h1 (hF.below hb) (hG.below hb)
 generalize dhcidOf l0 n1 = G0 at *
 generalize (clientOk l0 && nameOk n1) = G1 at *
 replace SP := hide SP
 replace IM := hide IM
 clear h8 hF hG
 have bd := below_drew (w := w1)
 have zdw1 : w1.drew.heap.size = w1.heap.size := rfl
 replace bb := below_next bb bd
 replace K1 := hide (block_kept bd (unhide K1))
 clear bd
 have ck1 := block_one (unhide K1)
 go_wp2_with fail
 clear ck1
 go_region_held3 (fun w' => w'.cell? ⟨w.heap.size, 0, none⟩ = some (.slice a1 n1.length cap1))
  (first | exact (block_one (unhide K1)) | exact (block_one (block_kept q2 (unhide K1))) | exact (block_one (block_kept q3 (unhide K1))) | exact (block_one (block_kept q4 (unhide K1))))
  (first
  | (go_at_call 29; refine (toByteS_any a0 cap0 l0 _ ((unhide L0).below bb) hl0).mono ?_; rintro e w2 ⟨x2, rfl, o2, b2⟩; have q2 := b2)
  | (go_at_call 33; refine (toName_any a1 cap1 n1 _ ((unhide L1).below (below_next bb q2)) hl1 (unhide HL1)).mono ?_; rintro e w3 ⟨x3, rfl, o3, b3⟩; obtain ⟨xa3, xc3, rfl, _⟩ := o3.hasL.form; have q3 := below_next q2 b3)
  | (go_at_call 32; refine (unhide SP _ _ (o2.below b3).has _ o3.hasL).mono ?_; rintro e w4 ⟨y4, rfl, o4, b4⟩; have q4 := below_next q3 b4))
 clear b2 o2 q2 b3 o3 q3 b4
 replace bb := below_next bb q4
 replace K1 := hide (block_kept q4 (unhide K1))
 have z4 := q4.size
 clear q4
 have W0 := hide o4.has.at
 clear o4
 have ck1 := block_one (unhide K1)
 go_wp2_with fail
 clear ck1
 refine (toByteS_any a0 cap0 l0 _ ((unhide L0).below bb) hl0).mono ?_
 rintro e w5 ⟨x5, rfl, o5, b5⟩
 have X0 := hide o5.here
 clear o5
 replace bb := below_next bb b5
 replace K1 := hide (block_kept b5 (unhide K1))
 replace W0 := hide ((unhide W0).below b5)
 have z5 := b5.size
 clear b5
 have ck1 := block_one (unhide K1)
 go_wp2_with fail
 clear ck1
 refine (toName_any a1 cap1 n1 _ ((unhide L1).below bb) hl1 (unhide HL1)).mono ?_
 rintro e w6 ⟨x6, rfl, o6, b6⟩
 obtain ⟨xa6, xc6, rfl, _⟩ := o6.hasL.form
 have X1 := hide o6.here
 clear o6
 replace bb := below_next bb b6
 replace K1 := hide (block_kept b6 (unhide K1))
 replace W0 := hide ((unhide W0).below b6)
 replace X0 := hide ((unhide X0).below b6)
 have z6 := b6.size
 clear b6
 have b7 := below_alloc (w := w6) (.cells #[.slice xa6 n1.length xc6] 26)
 have VX1 := hide (heap_alloc_new w6 (.cells #[.slice xa6 n1.length xc6] 26))
 have ck1 := block_one (block_kept b7 (unhide K1))
 go_wp2_with fail
 clear ck1
 generalize w6.alloc (.cells #[.slice xa6 n1.length xc6] 26) = w7 at *
 replace bb := below_next bb b7
 replace K1 := hide (block_kept b7 (unhide K1))
 replace W0 := hide ((unhide W0).below b7)
 replace X0 := hide ((unhide X0).below b7)
 replace X1 := hide ((unhide X1).below b7)
 have z7 := b7.size
 clear b7
 have zz7 := block_lt (unhide VX1)
 refine (unhide IM _ bb _ (unhide X0).has _ (unhide X1).hasL).mono ?_
 rintro e w8 ⟨y8, rfl, o8, b8⟩
 replace bb := below_next bb b8
 replace K1 := hide (block_kept b8 (unhide K1))
 replace W0 := hide ((unhide W0).below b8)
 replace X0 := hide ((unhide X0).below b8)
 replace X1 := hide ((unhide X1).below b8)
 replace VX1 := hide (block_kept b8 (unhide VX1))
 have z8 := b8.size
 clear b8
 have GG := hide o8.here
 clear o8
 go_wp2_with fail
 refine (eqByteS_has (unhide GG).has (unhide W0).has (by omega)).mono ?_
 rintro e w9 ⟨rfl, m9, hm9⟩
 have b9 : Below w8.heap.size w8 w9 := by rw [hm9]; exact below_draws m9
 clear hm9
 replace bb := below_next bb b9
 replace K1 := hide (block_kept b9 (unhide K1))
 replace W0 := hide ((unhide W0).below b9)
 replace X0 := hide ((unhide X0).below b9)
 replace X1 := hide ((unhide X1).below b9)
 replace VX1 := hide (block_kept b9 (unhide VX1))
 replace GG := hide ((unhide GG).below b9)
 have z9 := b9.size
 clear b9
 have ck1 := block_one (unhide K1)
 go_wp2_with fail
 clear ck1
 refine (toByteS_any a0 cap0 l0 _ ((unhide L0).below bb) hl0).mono ?_
 rintro e w10 ⟨x10, rfl, o10, b10⟩
 have A10 := hide o10.has
 clear o10
 replace bb := below_next bb b10
 replace K1 := hide (block_kept b10 (unhide K1))
 replace W0 := hide ((unhide W0).below b10)
 replace X0 := hide ((unhide X0).below b10)
 replace X1 := hide ((unhide X1).below b10)
 replace VX1 := hide (block_kept b10 (unhide VX1))
 replace GG := hide ((unhide GG).below b10)
 have z10 := b10.size
 clear b10
 go_wp2_with fail
 refine (eqByteS_has (unhide X0).has (unhide A10) (by omega)).mono ?_
 rintro e w11 ⟨rfl, m11, hm11⟩
 have b11 : Below w10.heap.size w10 w11 := by rw [hm11]; exact below_draws m11
 clear hm11 A10
 replace bb := below_next bb b11
 replace K1 := hide (block_kept b11 (unhide K1))
 replace W0 := hide ((unhide W0).below b11)
 replace X0 := hide ((unhide X0).below b11)
 replace X1 := hide ((unhide X1).below b11)
 replace VX1 := hide (block_kept b11 (unhide VX1))
 replace GG := hide ((unhide GG).below b11)
 have z11 := b11.size
 clear b11
 have bd := below_drew (w := w11)
 have zdw11 : w11.drew.heap.size = w11.heap.size := rfl
 replace bb := below_next bb bd
 replace K1 := hide (block_kept bd (unhide K1))
 replace W0 := hide ((unhide W0).below bd)
 replace X0 := hide ((unhide X0).below bd)
 replace X1 := hide ((unhide X1).below bd)
 replace VX1 := hide (block_kept bd (unhide VX1))
 replace GG := hide ((unhide GG).below bd)
 clear bd
 have ck := block_one (unhide K1)
 have cx := block_one (unhide VX1)
 go_wp2_with fail
 clear ck cx
 go_region_held3 (fun w' => w'.cell? ⟨w.heap.size, 0, none⟩ = some (.slice a1 n1.length cap1) ∧ w'.cell? ⟨w6.heap.size, 0, none⟩ = some (.slice xa6 n1.length xc6))
  (first | exact ⟨block_one (unhide K1), block_one (unhide VX1)⟩ | exact ⟨block_one (block_kept b12 (unhide K1)), block_one (block_kept b12 (unhide VX1))⟩ | exact ⟨block_one (block_kept q13 (unhide K1)), block_one (block_kept q13 (unhide VX1))⟩)
  (first
  | (go_at_call 33; refine (toName_any a1 cap1 n1 _ ((unhide L1).below bb) hl1 (unhide HL1)).mono ?_; rintro e w12 ⟨x12, rfl, o12, b12⟩; obtain ⟨xa12, xc12, rfl, _⟩ := o12.hasL.form)
  | (go_at_call 16; refine (eqName_has ((unhide X1).below b12).hasL o12.hasL (unhide HLL1)).mono ?_; rintro e w13 ⟨rfl, b13⟩; have q13 := below_next b12 b13))
 clear b12 b13 o12
 replace bb := below_next bb q13
 replace K1 := hide (block_kept q13 (unhide K1))
 replace W0 := hide ((unhide W0).below q13)
 replace X0 := hide ((unhide X0).below q13)
 replace X1 := hide ((unhide X1).below q13)
 replace VX1 := hide (block_kept q13 (unhide VX1))
 replace GG := hide ((unhide GG).below q13)
 have z13 := q13.size
 clear q13
 go_wp2_with fail
 refine (markByteS_any 1 (unhide X0).1 (by omega) (by omega) (by omega)).mono ?_
 rintro e w14 ⟨rfl, o14, g14⟩
 obtain ⟨_, u14⟩ := (unhide X0).marks o14 g14
 clear o14 g14 X0
 replace bb := u14.below bb (by omega)
 replace K1 := hide (u14.kept (unhide K1) (by omega))
 replace W0 := hide ((unhide W0).outside u14 (by omega))
 replace X1 := hide ((unhide X1).outside u14 (by omega))
 replace VX1 := hide (u14.kept (unhide VX1) (by omega))
 replace GG := hide ((unhide GG).outside u14 (by omega))
 have z14 := u14.size
 clear u14
 have cx := block_one (unhide VX1)
 go_wp2_with fail
 clear cx
 refine (unhide MK1 _ _ _ _ (unhide X1)).mono ?_
 rintro e w15 ⟨rfl, o15, u15⟩
 clear o15 X1
 replace bb := u15.below bb (by omega)
 replace K1 := hide (u15.kept (unhide K1) (by omega))
 replace W0 := hide ((unhide W0).outside u15 (by omega))
 replace VX1 := hide (u15.kept (unhide VX1) (by omega))
 replace GG := hide ((unhide GG).outside u15 (by omega))
 have z15 := u15.size
 clear u15
 go_wp2_with fail
 refine (eqByteS_has (unhide GG).has (unhide W0).has (by omega)).mono ?_
 rintro e w16 ⟨rfl, m16, hm16⟩
 have b16 : Below w15.heap.size w15 w16 := by rw [hm16]; exact below_draws m16
 clear hm16
 replace bb := below_next bb b16
 replace K1 := hide (block_kept b16 (unhide K1))
 replace W0 := hide ((unhide W0).below b16)
 replace VX1 := hide (block_kept b16 (unhide VX1))
 replace GG := hide ((unhide GG).below b16)
 have z16 := b16.size
 clear b16
 go_wp2_with fail
 refine (markByteS_any 1 (unhide GG).1 (by omega) (by omega) (by omega)).mono ?_
 rintro e w17 ⟨rfl, o17, g17⟩
 obtain ⟨GM, u17⟩ := (unhide GG).marks o17 g17
 clear o17 g17 GG
 replace bb := u17.below bb (by omega)
 replace K1 := hide (u17.kept (unhide K1) (by omega))
 replace W0 := hide ((unhide W0).outside u17 (by omega))
 replace VX1 := hide (u17.kept (unhide VX1) (by omega))
 have z17 := u17.size
 clear u17
 replace GM := hide GM
 go_wp2_with fail
 refine (heldByteS_any 1 (unhide GM).1 (by omega) (by omega) (by omega)).mono ?_
 rintro e wh ⟨rfl, rfl⟩
 have bd := below_drew (w := w17)
 have zdw17 : w17.drew.heap.size = w17.heap.size := rfl
 replace bb := below_next bb bd
 replace K1 := hide (block_kept bd (unhide K1))
 replace W0 := hide ((unhide W0).below bd)
 replace VX1 := hide (block_kept bd (unhide VX1))
 replace GM := hide ((unhide GM).below bd)
 clear bd
 have ck1 := block_one (unhide K1)
 go_wp2_with fail
 clear ck1
 go_region_held3 (fun w' => w'.cell? ⟨w.heap.size, 0, none⟩ = some (.slice a1 n1.length cap1))
  (first | exact (block_one (unhide K1)) | exact (block_one (block_kept q18 (unhide K1))) | exact (block_one (block_kept q19 (unhide K1))) | exact (block_one (block_kept q20 (unhide K1))))
  (first
  | (go_at_call 29; refine (toByteS_any a0 cap0 l0 _ ((unhide L0).below bb) hl0).mono ?_; rintro e w18 ⟨x18, rfl, o18, b18⟩; have q18 := b18)
  | (go_at_call 33; refine (toName_any a1 cap1 n1 _ ((unhide L1).below (below_next bb q18)) hl1 (unhide HL1)).mono ?_; rintro e w19 ⟨x19, rfl, o19, b19⟩; obtain ⟨xa19, xc19, rfl, _⟩ := o19.hasL.form; have q19 := below_next q18 b19)
  | (go_at_call 34; refine (unhide IM _ (below_next bb q19) _ (o18.below b19).has _ o19.hasL).mono ?_; rintro e w20 ⟨y20, rfl, o20, b20⟩; have q20 := below_next q19 b20))
 clear b18 o18 q18 b19 o19 q19 b20
 replace bb := below_next bb q20
 replace K1 := hide (block_kept q20 (unhide K1))
 replace W0 := hide ((unhide W0).below q20)
 replace VX1 := hide (block_kept q20 (unhide VX1))
 replace GM := hide ((unhide GM).below q20)
 have z20 := q20.size
 clear q20
 have H0 := hide o20.here
 clear o20
 go_wp2_with fail
 refine (eqByteS_has (unhide H0).has (unhide W0).has (by omega)).mono ?_
 rintro e w21 ⟨rfl, m21, hm21⟩
 have b21 : Below w20.heap.size w20 w21 := by rw [hm21]; exact below_draws m21
 clear hm21
 replace bb := below_next bb b21
 replace K1 := hide (block_kept b21 (unhide K1))
 replace W0 := hide ((unhide W0).below b21)
 replace VX1 := hide (block_kept b21 (unhide VX1))
 replace GM := hide ((unhide GM).below b21)
 replace H0 := hide ((unhide H0).below b21)
 have z21 := b21.size
 clear b21
 go_wp2_with fail
 refine (heldByteS_any 1 (unhide GM).1 (by omega) (by omega) (by omega)).mono ?_
 rintro e wh ⟨rfl, rfl⟩
 go_wp2_with fail
 go_ret
 exact ⟨rfl, bb⟩
end Go.Proofs.YtkmjghecjlgjpaaDoor
