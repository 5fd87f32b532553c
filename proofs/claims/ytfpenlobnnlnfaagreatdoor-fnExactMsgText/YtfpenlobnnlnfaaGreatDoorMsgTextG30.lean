/-
  Contract of the specification's l3text at one kind of data.
-/
import Derived.Test.YtfpenlobnnlnfaaGreatDoorMsgTextG11
import Derived.Test.YtfpenlobnnlnfaaGreatDoorMsgTextG27
import Derived.Test.YtfpenlobnnlnfaaGreatDoorMsgTextG28
import Derived.Test.YtfpenlobnnlnfaaGreatDoorMsgTextG29
import Derived.Deep.Cut
namespace Go.Proofs.YtfpenlobnnlnfaaGreatDoor
open Go.RowKit
set_option linter.unusedVariables false

set_option maxHeartbeats 4000000 in
set_option maxRecDepth 100000 in
theorem l3text_A {na : Option Addr} {nc : Nat} {ta : Option Addr} {tc : Nat} {xa : Option Addr} {xc : Nat} {ia : Option Addr} {ic : Nat} {nm tq : List (List Int)} {tx nu : List Int} {tt ad : Int} {w : World} (h : HasR w (.slice na nm.length nc) (.slice ta tq.length tc) (.slice xa tx.length xc) (.slice ia nu.length ic) ⟨nm, 1, tt, ad, tq, tx, nu⟩) (hok : rrOk ⟨nm, 1, tt, ad, tq, tx, nu⟩ = true) (hD0 : 0 ≤ ad) (hD1 : ad ≤ 4294967295) :
  Calls Tryz.prog 39 #[.agg #[.slice na nm.length nc, .int .i64 1, .int .i64 tt, .int .i64 ad, .slice ta tq.length tc, .slice xa tx.length xc, .slice ia nu.length ic]] w fun e w' => ∃ v', e = .returned v' ∧ Own w.heap.size 5 w' v' (nameText nm ++ [32] ++ digs tt ++ [32] ++ typeT 1 ++ [32] ++ (dotted ad)) ∧ Below w.heap.size w w' := by
 have b0 := UI (w := w) (.cells #[.slice na nm.length nc, .int .i64 1, .int .i64 tt, .int .i64 ad, .slice ta tq.length tc, .slice xa tx.length xc, .slice ia nu.length ic] 77)
 have KBW := UC (heap_alloc_new w (.cells #[.slice na nm.length nc, .int .i64 1, .int .i64 tt, .int .i64 ad, .slice ta tq.length tc, .slice xa tx.length xc, .slice ia nu.length ic] 77))
 have FN := UC (h.name.below b0)
 have FT := UC (h.«to».below b0)
 have FX := UC (h.text.below b0)
 obtain ⟨hnm, hok2, h0, h1, _⟩ := rrOk_parts hok
 simp only at hnm hok2 h0 h1
 have PN := UC (show ∀ w1 : World, HasL w1 (.slice na nm.length nc) nm → Calls Tryz.prog 18 #[.agg #[.slice na nm.length nc]] w1 fun e w' => ∃ v', e = .returned v' ∧ App w1.heap.size 5 w' v' (nameText nm) ∧ Below w1.heap.size w1 w' from fun w1 hh => l2text_app hh hnm)
 have PI := UC (show ∀ w1 : World, Calls Tryz.prog 17 #[.int .i64 tt] w1 fun e w' => ∃ v', e = .returned v' ∧ Own w1.heap.size 5 w' v' (digs tt) ∧ Below w1.heap.size w1 w' from fun w1 => l1digits_any2 tt w1 h0 (by omega))
 have PY := UC (show ∀ w1 : World, Calls Tryz.prog 64 #[.int .i64 1] w1 fun e w' => e = .returned (.string (strOfNums (typeT 1))) ∧ w1 = w' from fun w1 => l3type_is hok2)
 have PD := UC (show ∀ w1 : World, Calls Tryz.prog 65 #[.int .i64 ad] w1 fun e w' => ∃ v', e = .returned v' ∧ Own w1.heap.size 5 w' v' (dotted ad) ∧ Below w1.heap.size w1 w' from fun w1 => by
  have e1 : dotted ad = sdot ad 4 := by unfold dotted; rw [if_pos ⟨hD0, hD1⟩, sdot_idot]
  rw [e1]
  exact l1dotted_any ad w1 hD0 hD1)
 have lN := nameText_length nm
 have lT := digs_ten h0 (show tt ≤ 4294967295 by omega)
 have lY := typeT_length 1
 have YY := UC (typeT_byt 1)
 have lD := dotted_length ad
 clear h hok hok2
 generalize nameText nm = N at *
 generalize digs tt = T at *
 generalize typeT 1 = Y at *
 generalize dotted ad = D at *
 go_enter Tryz.func39, Tryz.ntmps39
 go_upto_region 1 with fail
 generalize w.alloc (.cells #[.slice na nm.length nc, .int .i64 1, .int .i64 tt, .int .i64 ad, .slice ta tq.length tc, .slice xa tx.length xc, .slice ia nu.length ic] 77) = W at *
 have zW := b0.size
 go_cut [3] from 4 (fun b wx => Own W.heap.size 5 wx b (N ++ [32] ++ T) ∧ Below W.heap.size W wx)
 case first =>
  have bb0 := UG (Below.refl W.heap.size W) (UX (w := W))
  refine startD [2, 3, 4, 7, 8] [0, 1, 5, 6, 2, 3, 4, 7, 8, 9] (by kernel_rfl) ⟨by kernel_rfl, by kernel_rfl, by kernel_rfl, by kernel_rfl⟩ 6 [(1, fun w' => w'.cell? ⟨w.heap.size, 0, none⟩ = some (.slice na nm.length nc)), (6, fun w' => w'.cell? ⟨w.heap.size, 2, none⟩ = some (.int .i64 tt))] (fun hA => ?_)
  replace hA := UC hA
  generalize W.drew = w0 at *
  go_simp
  repeat ((refine lookD ?_ (UB hA) rfl rfl rfl (by rfl) (fun _ _ _ h => h) ?_ ?_; rotate_left; · (intro w; go_simp <;> with_reducible rfl)); go_simp)
  refine takeD ?_ (UB hA) rfl rfl rfl (by rfl) (fun _ _ _ h => h) (.head _) (UJ (UE bb0 (UB KBW))).1 ?_ ?_; rotate_left; (· (intro w hSw; (try dsimp only at hSw); go_simp <;> with_reducible rfl)); go_simp
  repeat ((refine lookD ?_ (UB hA) rfl rfl rfl (by rfl) (fun _ _ _ h => h) ?_ ?_; rotate_left; · (intro w; go_simp <;> with_reducible rfl)); go_simp)
  refine takeD ?_ (UB hA) rfl rfl rfl (by rfl) (fun _ _ _ h => h) (.tail _ (.head _)) (UJ (UE bb0 (UB KBW))).2.2.1 ?_ ?_; rotate_left; (· (intro w hSw; (try dsimp only at hSw); go_simp <;> with_reducible rfl)); go_simp
  repeat ((refine lookD ?_ (UB hA) rfl rfl rfl (by rfl) (fun _ _ _ h => h) ?_ ?_; rotate_left; · (intro w; go_simp <;> with_reducible rfl)); go_simp)
  refine forkD [0, 1, 5, 6, 3, 2, 4, 7, 8, 9] (UB hA) rfl rfl ⟨by kernel_rfl, by kernel_rfl, by kernel_rfl, by kernel_rfl⟩ rfl rfl rfl (by kernel_rfl) (by kernel_rfl) (by kernel_rfl) (fun K hK => ?_) (fun hA2 K hK => ?_)
  ·have HK := UC hK
   clear hK
   go_simp
   refine (UB PN _ ((UB FN).below bb0)).mono ?_
   rintro e w1 ⟨v1, rfl, o, b1⟩
   have o1 := UC o
   clear o
   have bb1 := UG bb0 b1
   have R1 := UC ((UB o1).mono bb0.size)
   refine (UB HK).out _ _ (VB (by kernel_rfl) (keepC_yes (UJ (UE bb1 (UB KBW))).2.2.1 VL)) ?_
   clear HK K
   go_simp
   repeat ((refine lookD ?_ (UB hA) rfl rfl rfl (by rfl) (fun _ _ _ h => h) ?_ ?_; rotate_left; · (intro w; go_simp <;> with_reducible rfl)); go_simp)
   refine runD (UB hA) rfl rfl (by kernel_rfl) (by kernel_rfl) (fun K hK => ?_)
   have HK := UC hK
   clear hK
   have ba2 := UI (w := w1) (.cells #[.int .u8 32] 5)
   have NE2 : Hid (v1.ownBlock ≠ some w1.heap.size) := UC (fun c => by have := ((UB R1).lt _ c).2; omega)
   have R2 := UC ((UB R1).below ba2)
   have S2_3 : Hid (Sep w1.heap.size 5 (w1.alloc (.cells #[.int .u8 32] 5))) := UC (heap_alloc_new w1 (.cells #[.int .u8 32] 5))
   have bb2 := UG bb1 ba2
   clear ba2
   go_simp
   refine (UB HK).out _ _ (keepC_yes (UJ (UE bb2 (UB KBW))).1 (keepC_yes (UJ (UE bb2 (UB KBW))).2.2.1 VL)) ?_
   clear HK K
   go_simp
   repeat ((refine lookD ?_ (UB hA) rfl rfl rfl (by rfl) (fun _ _ _ h => h) ?_ ?_; rotate_left; · (intro w; go_simp <;> with_reducible rfl)); go_simp)
   generalize w1.alloc (.cells #[.int .u8 32] 5) = w2 at *
   refine runD (UB hA) rfl rfl (by kernel_rfl) (by kernel_rfl) (fun K hK => ?_)
   have HK := UC hK
   clear hK
   refine app_wp (.tmp 6) (.tmp 7) 28 5 rfl Tryz.underlying28 VJ W.heap.size v1 _ (N) [32] rfl rfl (UB R2) (UB S2_3).reads (by first | omega | (simp only [List.length_cons, List.length_nil]; omega) | (simp only [List.length_append]; omega) | (simp only [List.length_append, List.length_cons, List.length_nil]; omega)) (by first | omega | (simp only [List.length_cons, List.length_nil]; omega) | (simp only [List.length_append]; omega) | (simp only [List.length_append, List.length_cons, List.length_nil]; omega)) bb2.size ?_
   intro v3 w3 o3 g3 h3
   have bb3 : Below W.heap.size W w3 := bb2.grown g3 bb2.size (fun q hq => ((UB R2).lt q hq).1)
   have R3 := UC o3
   clear o3 g3 h3
   refine (UB HK).out _ _ (VB (by kernel_rfl) (keepC_yes (UJ (UE bb3 (UB KBW))).2.2.1 VL)) ?_
   clear HK K
   go_simp
   repeat ((refine lookD ?_ (UB hA) rfl rfl rfl (by rfl) (fun _ _ _ h => h) ?_ ?_; rotate_left; · (intro w; go_simp <;> with_reducible rfl)); go_simp)
   refine runD (UB hA) rfl rfl (by kernel_rfl) (by kernel_rfl) (fun K hK => ?_)
   have HK := UC hK
   clear hK
   go_simp
   refine (UB PI _ ).mono ?_
   rintro e w4 ⟨v4, rfl, o, b4⟩
   have o4 := UC o
   clear o
   have R4 := UC ((UB R3).below b4)
   have bb4 := UG bb3 b4
   refine (UB HK).out _ _ (VB (by kernel_rfl) (VB (by kernel_rfl) VL)) ?_
   clear HK K
   go_simp
   repeat ((refine lookD ?_ (UB hA) rfl rfl rfl (by rfl) (fun _ _ _ h => h) ?_ ?_; rotate_left; · (intro w; go_simp <;> with_reducible rfl)); go_simp)
   refine runD (UB hA) rfl rfl (by kernel_rfl) (by kernel_rfl) (fun K hK => ?_)
   have HK := UC hK
   clear hK
   refine app_wp (.tmp 8) (.tmp 11) 28 5 rfl Tryz.underlying28 VJ W.heap.size v3 _ (N ++ [32]) T rfl rfl (.inl (UB R4)) (UB o4).reads (by first | omega | (simp only [List.length_cons, List.length_nil]; omega) | (simp only [List.length_append]; omega) | (simp only [List.length_append, List.length_cons, List.length_nil]; omega)) (by first | omega | (simp only [List.length_cons, List.length_nil]; omega) | (simp only [List.length_append]; omega) | (simp only [List.length_append, List.length_cons, List.length_nil]; omega)) bb4.size ?_
   intro v5 w5 o5 g5 h5
   have bb5 : Below W.heap.size W w5 := bb4.grown g5 bb4.size (fun q hq => ((UB R4).lt q hq).1)
   have R5 := UC o5
   clear o5 g5 h5
   refine (UB HK).out _ _ (VB (by kernel_rfl) (VB (by kernel_rfl) VL)) ?_
   clear HK K
   go_simp
   repeat ((refine lookD ?_ (UB hA) rfl rfl rfl (by rfl) (fun _ _ _ h => h) ?_ ?_; rotate_left; · (intro w; go_simp <;> with_reducible rfl)); go_simp)
   refine doneD (UB hA) rfl ?_
   clear hA
   go_wp2_with fail
   go_meet
   exact ⟨UB R5, bb5⟩
  ·replace hA := UC hA2
   clear hA2
   have HK := UC hK
   clear hK
   have ba6 := UI (w := w0) (.cells #[.int .u8 32] 5)
   have S6_3 : Hid (Sep w0.heap.size 5 (w0.alloc (.cells #[.int .u8 32] 5))) := UC (heap_alloc_new w0 (.cells #[.int .u8 32] 5))
   have bb6 := UG bb0 ba6
   clear ba6
   go_simp
   refine (UB HK).out _ _ (keepC_yes (UJ (UE bb6 (UB KBW))).1 (keepC_yes (UJ (UE bb6 (UB KBW))).2.2.1 VL)) ?_
   clear HK K
   go_simp
   repeat ((refine lookD ?_ (UB hA) rfl rfl rfl (by rfl) (fun _ _ _ h => h) ?_ ?_; rotate_left; · (intro w; go_simp <;> with_reducible rfl)); go_simp)
   generalize w0.alloc (.cells #[.int .u8 32] 5) = w6 at *
   refine runD (UB hA) rfl rfl (by kernel_rfl) (by kernel_rfl) (fun K hK => ?_)
   have HK := UC hK
   clear hK
   go_simp
   refine (UB PN _ ((UB FN).below bb6)).mono ?_
   rintro e w7 ⟨v7, rfl, o, b7⟩
   have o7 := UC o
   clear o
   have S7_3 := UC ((UB S6_3).below b7)
   have bb7 := UG bb6 b7
   have R7 := UC ((UB o7).mono bb6.size)
   refine (UB HK).out _ _ (VB (by kernel_rfl) (keepC_yes (UJ (UE bb7 (UB KBW))).2.2.1 VL)) ?_
   clear HK K
   go_simp
   repeat ((refine lookD ?_ (UB hA) rfl rfl rfl (by rfl) (fun _ _ _ h => h) ?_ ?_; rotate_left; · (intro w; go_simp <;> with_reducible rfl)); go_simp)
   refine runD (UB hA) rfl rfl (by kernel_rfl) (by kernel_rfl) (fun K hK => ?_)
   have HK := UC hK
   clear hK
   refine app_wp (.tmp 6) (.tmp 7) 28 5 rfl Tryz.underlying28 VJ W.heap.size v7 _ (N) [32] rfl rfl (UB R7) (UB S7_3).reads (by first | omega | (simp only [List.length_cons, List.length_nil]; omega) | (simp only [List.length_append]; omega) | (simp only [List.length_append, List.length_cons, List.length_nil]; omega)) (by first | omega | (simp only [List.length_cons, List.length_nil]; omega) | (simp only [List.length_append]; omega) | (simp only [List.length_append, List.length_cons, List.length_nil]; omega)) bb7.size ?_
   intro v8 w8 o8 g8 h8
   have bb8 : Below W.heap.size W w8 := bb7.grown g8 bb7.size (fun q hq => ((UB R7).lt q hq).1)
   have R8 := UC o8
   clear o8 g8 h8
   refine (UB HK).out _ _ (VB (by kernel_rfl) (keepC_yes (UJ (UE bb8 (UB KBW))).2.2.1 VL)) ?_
   clear HK K
   go_simp
   repeat ((refine lookD ?_ (UB hA) rfl rfl rfl (by rfl) (fun _ _ _ h => h) ?_ ?_; rotate_left; · (intro w; go_simp <;> with_reducible rfl)); go_simp)
   refine runD (UB hA) rfl rfl (by kernel_rfl) (by kernel_rfl) (fun K hK => ?_)
   have HK := UC hK
   clear hK
   go_simp
   refine (UB PI _ ).mono ?_
   rintro e w9 ⟨v9, rfl, o, b9⟩
   have o9 := UC o
   clear o
   have R9 := UC ((UB R8).below b9)
   have bb9 := UG bb8 b9
   refine (UB HK).out _ _ (VB (by kernel_rfl) (VB (by kernel_rfl) VL)) ?_
   clear HK K
   go_simp
   repeat ((refine lookD ?_ (UB hA) rfl rfl rfl (by rfl) (fun _ _ _ h => h) ?_ ?_; rotate_left; · (intro w; go_simp <;> with_reducible rfl)); go_simp)
   refine runD (UB hA) rfl rfl (by kernel_rfl) (by kernel_rfl) (fun K hK => ?_)
   have HK := UC hK
   clear hK
   refine app_wp (.tmp 8) (.tmp 11) 28 5 rfl Tryz.underlying28 VJ W.heap.size v8 _ (N ++ [32]) T rfl rfl (.inl (UB R9)) (UB o9).reads (by first | omega | (simp only [List.length_cons, List.length_nil]; omega) | (simp only [List.length_append]; omega) | (simp only [List.length_append, List.length_cons, List.length_nil]; omega)) (by first | omega | (simp only [List.length_cons, List.length_nil]; omega) | (simp only [List.length_append]; omega) | (simp only [List.length_append, List.length_cons, List.length_nil]; omega)) bb9.size ?_
   intro v10 w10 o10 g10 h10
   have bb10 : Below W.heap.size W w10 := bb9.grown g10 bb9.size (fun q hq => ((UB R9).lt q hq).1)
   have R10 := UC o10
   clear o10 g10 h10
   refine (UB HK).out _ _ (VB (by kernel_rfl) (VB (by kernel_rfl) VL)) ?_
   clear HK K
   go_simp
   repeat ((refine lookD ?_ (UB hA) rfl rfl rfl (by rfl) (fun _ _ _ h => h) ?_ ?_; rotate_left; · (intro w; go_simp <;> with_reducible rfl)); go_simp)
   refine doneD (UB hA) rfl ?_
   clear hA
   go_wp2_with fail
   go_meet
   exact ⟨UB R10, bb10⟩
 case rest =>
  obtain ⟨o1, bb1⟩ := hcut
  have R0 := UC o1
  clear o1
  go_upto_region 2 with fail
  go_cut [3] from 13 (fun b wx => Own W.heap.size 5 wx b (N ++ [32] ++ T ++ [32] ++ Y ++ [32]) ∧ Below W.heap.size W wx)
  case first =>
   have bb0 := UG bb1 (UX (w := wc))
   refine startD [1, 2, 5, 6, 7, 8] [0, 3, 4, 1, 2, 5, 6, 7, 8, 9] (by kernel_rfl) ⟨by kernel_rfl, by kernel_rfl, by kernel_rfl, by kernel_rfl⟩ 6 [(4, fun w' => w'.cell? ⟨w.heap.size, 1, none⟩ = some (.int .i64 1))] (fun hA => ?_)
   replace hA := UC hA
   have RD := UC ((UB R0).below (UX (w := wc)))
   generalize wc.drew = w0 at *
   go_simp
   repeat ((refine lookD ?_ (UB hA) rfl rfl rfl (by rfl) (fun _ _ _ h => h) ?_ ?_; rotate_left; · (intro w; go_simp <;> with_reducible rfl)); go_simp)
   refine takeD ?_ (UB hA) rfl rfl rfl (by rfl) (fun _ _ _ h => h) (.head _) (UJ (UE bb0 (UB KBW))).2.1 ?_ ?_; rotate_left; (· (intro w hSw; (try dsimp only at hSw); go_simp <;> with_reducible rfl)); go_simp
   repeat ((refine lookD ?_ (UB hA) rfl rfl rfl (by rfl) (fun _ _ _ h => h) ?_ ?_; rotate_left; · (intro w; go_simp <;> with_reducible rfl)); go_simp)
   refine forkD [0, 3, 4, 7, 1, 2, 5, 6, 8, 9] (UB hA) rfl rfl ⟨by kernel_rfl, by kernel_rfl, by kernel_rfl, by kernel_rfl⟩ rfl rfl rfl (by kernel_rfl) (by kernel_rfl) (by kernel_rfl) (fun K hK => ?_) (fun hA2 K hK => ?_)
   ·have HK := UC hK
    clear hK
    have ba1 := UI (w := w0) (.cells #[.int .u8 32] 5)
    have NE1 : Hid (u3.ownBlock ≠ some w0.heap.size) := UC (fun c => by have := ((UB RD).lt _ c).2; omega)
    have R1 := UC ((UB RD).below ba1)
    have S1_1 : Hid (Sep w0.heap.size 5 (w0.alloc (.cells #[.int .u8 32] 5))) := UC (heap_alloc_new w0 (.cells #[.int .u8 32] 5))
    have bb1 := UG bb0 ba1
    clear ba1
    go_simp
    refine (UB HK).out _ _ (keepC_yes (UJ (UE bb1 (UB KBW))).2.1 VL) ?_
    clear HK K
    go_simp
    repeat ((refine lookD ?_ (UB hA) rfl rfl rfl (by rfl) (fun _ _ _ h => h) ?_ ?_; rotate_left; · (intro w; go_simp <;> with_reducible rfl)); go_simp)
    generalize w0.alloc (.cells #[.int .u8 32] 5) = w1 at *
    refine forkD [0, 3, 4, 1, 7, 2, 5, 6, 8, 9] (UB hA) rfl rfl ⟨by kernel_rfl, by kernel_rfl, by kernel_rfl, by kernel_rfl⟩ rfl rfl rfl (by kernel_rfl) (by kernel_rfl) (by kernel_rfl) (fun K hK => ?_) (fun hA2 K hK => ?_)
    ·have HK := UC hK
     clear hK
     refine app_wp (.tmp 13) (.tmp 14) 28 5 rfl Tryz.underlying28 VJ W.heap.size u3 _ (N ++ [32] ++ T) [32] rfl rfl (.inl (UB R1)) (UB S1_1).reads (by first | omega | (simp only [List.length_cons, List.length_nil]; omega) | (simp only [List.length_append]; omega) | (simp only [List.length_append, List.length_cons, List.length_nil]; omega)) (by first | omega | (simp only [List.length_cons, List.length_nil]; omega) | (simp only [List.length_append]; omega) | (simp only [List.length_append, List.length_cons, List.length_nil]; omega)) bb1.size ?_
     intro v2 w2 o2 g2 h2
     have bb2 : Below W.heap.size W w2 := bb1.grown g2 bb1.size (fun q hq => ((UB R1).lt q hq).1)
     have R2 := UC o2
     clear o2 g2 h2
     refine (UB HK).out _ _ (keepC_yes (UJ (UE bb2 (UB KBW))).2.1 VL) ?_
     clear HK K
     go_simp
     repeat ((refine lookD ?_ (UB hA) rfl rfl rfl (by rfl) (fun _ _ _ h => h) ?_ ?_; rotate_left; · (intro w; go_simp <;> with_reducible rfl)); go_simp)
     refine forkD [0, 3, 4, 1, 2, 7, 5, 6, 8, 9] (UB hA) rfl rfl ⟨by kernel_rfl, by kernel_rfl, by kernel_rfl, by kernel_rfl⟩ rfl rfl rfl (by kernel_rfl) (by kernel_rfl) (by kernel_rfl) (fun K hK => ?_) (fun hA2 K hK => ?_)
     ·have HK := UC hK
      clear hK
      go_simp
      refine (UB PY _).mono ?_
      rintro e w0_3 ⟨rfl, rfl⟩
      refine (UB HK).out _ _ (VB (by kernel_rfl) VL) ?_
      clear HK K
      go_simp
      repeat ((refine lookD ?_ (UB hA) rfl rfl rfl (by rfl) (fun _ _ _ h => h) ?_ ?_; rotate_left; · (intro w; go_simp <;> with_reducible rfl)); go_simp)
      refine forkD [0, 3, 4, 1, 2, 5, 7, 6, 8, 9] (UB hA) rfl rfl ⟨by kernel_rfl, by kernel_rfl, by kernel_rfl, by kernel_rfl⟩ rfl rfl rfl (by kernel_rfl) (by kernel_rfl) (by kernel_rfl) (fun K hK => ?_) (fun hA2 K hK => ?_)
      ·have HK := UC hK
       clear hK
       refine apps_wp (.tmp 15) (.tmp 18) 28 9 5 rfl Tryz.underlying28 Tryz.underlying9 VJ W.heap.size v2 (N ++ [32] ++ T ++ [32]) Y rfl rfl (UB YY) (UB R2) (by first | omega | (simp only [List.length_cons, List.length_nil]; omega) | (simp only [List.length_append]; omega) | (simp only [List.length_append, List.length_cons, List.length_nil]; omega)) (by first | omega | (simp only [List.length_cons, List.length_nil]; omega) | (simp only [List.length_append]; omega) | (simp only [List.length_append, List.length_cons, List.length_nil]; omega)) bb2.size ?_
       intro v4 w4 o4 g4 h4
       have bb4 : Below W.heap.size W w4 := bb2.grown g4 bb2.size (fun q hq => ((UB R2).lt q hq).1)
       have R4 := UC o4
       clear o4 g4 h4
       refine (UB HK).out _ _ (VB (by kernel_rfl) VL) ?_
       clear HK K
       go_simp
       repeat ((refine lookD ?_ (UB hA) rfl rfl rfl (by rfl) (fun _ _ _ h => h) ?_ ?_; rotate_left; · (intro w; go_simp <;> with_reducible rfl)); go_simp)
       refine runD (UB hA) rfl rfl (by kernel_rfl) (by kernel_rfl) (fun K hK => ?_)
       have HK := UC hK
       clear hK
       have ba5 := UI (w := w4) (.cells #[.int .u8 32] 5)
       have NE5 : Hid (v4.ownBlock ≠ some w4.heap.size) := UC (fun c => by have := ((UB R4).lt _ c).2; omega)
       have R5 := UC ((UB R4).below ba5)
       have S5_7 : Hid (Sep w4.heap.size 5 (w4.alloc (.cells #[.int .u8 32] 5))) := UC (heap_alloc_new w4 (.cells #[.int .u8 32] 5))
       have bb5 := UG bb4 ba5
       clear ba5
       go_simp
       refine (UB HK).out _ _ (keepC_yes (UJ (UE bb5 (UB KBW))).2.1 VL) ?_
       clear HK K
       go_simp
       repeat ((refine lookD ?_ (UB hA) rfl rfl rfl (by rfl) (fun _ _ _ h => h) ?_ ?_; rotate_left; · (intro w; go_simp <;> with_reducible rfl)); go_simp)
       generalize w4.alloc (.cells #[.int .u8 32] 5) = w5 at *
       refine runD (UB hA) rfl rfl (by kernel_rfl) (by kernel_rfl) (fun K hK => ?_)
       have HK := UC hK
       clear hK
       refine app_wp (.tmp 19) (.tmp 20) 28 5 rfl Tryz.underlying28 VJ W.heap.size v4 _ (N ++ [32] ++ T ++ [32] ++ Y) [32] rfl rfl (.inl (UB R5)) (UB S5_7).reads (by first | omega | (simp only [List.length_cons, List.length_nil]; omega) | (simp only [List.length_append]; omega) | (simp only [List.length_append, List.length_cons, List.length_nil]; omega)) (by first | omega | (simp only [List.length_cons, List.length_nil]; omega) | (simp only [List.length_append]; omega) | (simp only [List.length_append, List.length_cons, List.length_nil]; omega)) bb5.size ?_
       intro v6 w6 o6 g6 h6
       have bb6 : Below W.heap.size W w6 := bb5.grown g6 bb5.size (fun q hq => ((UB R5).lt q hq).1)
       have R6 := UC o6
       clear o6 g6 h6
       refine (UB HK).out _ _ (VB (by kernel_rfl) VL) ?_
       clear HK K
       go_simp
       repeat ((refine lookD ?_ (UB hA) rfl rfl rfl (by rfl) (fun _ _ _ h => h) ?_ ?_; rotate_left; · (intro w; go_simp <;> with_reducible rfl)); go_simp)
       refine doneD (UB hA) rfl ?_
       clear hA
       go_wp2_with fail
       go_meet
       exact ⟨UB R6, bb6⟩
      ·replace hA := UC hA2
       clear hA2
       have HK := UC hK
       clear hK
       have ba7 := UI (w := w2) (.cells #[.int .u8 32] 5)
       have NE7 : Hid (v2.ownBlock ≠ some w2.heap.size) := UC (fun c => by have := ((UB R2).lt _ c).2; omega)
       have R7 := UC ((UB R2).below ba7)
       have S7_7 : Hid (Sep w2.heap.size 5 (w2.alloc (.cells #[.int .u8 32] 5))) := UC (heap_alloc_new w2 (.cells #[.int .u8 32] 5))
       have bb7 := UG bb2 ba7
       clear ba7
       go_simp
       refine (UB HK).out _ _ (keepC_yes (UJ (UE bb7 (UB KBW))).2.1 VL) ?_
       clear HK K
       go_simp
       repeat ((refine lookD ?_ (UB hA) rfl rfl rfl (by rfl) (fun _ _ _ h => h) ?_ ?_; rotate_left; · (intro w; go_simp <;> with_reducible rfl)); go_simp)
       generalize w2.alloc (.cells #[.int .u8 32] 5) = w7 at *
       refine runD (UB hA) rfl rfl (by kernel_rfl) (by kernel_rfl) (fun K hK => ?_)
       have HK := UC hK
       clear hK
       refine apps_wp (.tmp 15) (.tmp 18) 28 9 5 rfl Tryz.underlying28 Tryz.underlying9 VJ W.heap.size v2 (N ++ [32] ++ T ++ [32]) Y rfl rfl (UB YY) (UB R7) (by first | omega | (simp only [List.length_cons, List.length_nil]; omega) | (simp only [List.length_append]; omega) | (simp only [List.length_append, List.length_cons, List.length_nil]; omega)) (by first | omega | (simp only [List.length_cons, List.length_nil]; omega) | (simp only [List.length_append]; omega) | (simp only [List.length_append, List.length_cons, List.length_nil]; omega)) bb7.size ?_
       intro v8 w8 o8 g8 h8
       have bb8 : Below W.heap.size W w8 := bb7.grown g8 bb7.size (fun q hq => ((UB R7).lt q hq).1)
       have NE8 := UC (apart_next (UB S7_7) (UB NE7) h8)
       have S8_7 := UC ((UB S7_7).grown g8 (UB NE7))
       have R8 := UC o8
       clear o8 g8 h8
       refine (UB HK).out _ _ (VB (by kernel_rfl) VL) ?_
       clear HK K
       go_simp
       repeat ((refine lookD ?_ (UB hA) rfl rfl rfl (by rfl) (fun _ _ _ h => h) ?_ ?_; rotate_left; · (intro w; go_simp <;> with_reducible rfl)); go_simp)
       refine runD (UB hA) rfl rfl (by kernel_rfl) (by kernel_rfl) (fun K hK => ?_)
       have HK := UC hK
       clear hK
       refine app_wp (.tmp 19) (.tmp 20) 28 5 rfl Tryz.underlying28 VJ W.heap.size v8 _ (N ++ [32] ++ T ++ [32] ++ Y) [32] rfl rfl (.inl (UB R8)) (UB S8_7).reads (by first | omega | (simp only [List.length_cons, List.length_nil]; omega) | (simp only [List.length_append]; omega) | (simp only [List.length_append, List.length_cons, List.length_nil]; omega)) (by first | omega | (simp only [List.length_cons, List.length_nil]; omega) | (simp only [List.length_append]; omega) | (simp only [List.length_append, List.length_cons, List.length_nil]; omega)) bb8.size ?_
       intro v9 w9 o9 g9 h9
       have bb9 : Below W.heap.size W w9 := bb8.grown g9 bb8.size (fun q hq => ((UB R8).lt q hq).1)
       have R9 := UC o9
       clear o9 g9 h9
       refine (UB HK).out _ _ (VB (by kernel_rfl) VL) ?_
       clear HK K
       go_simp
       repeat ((refine lookD ?_ (UB hA) rfl rfl rfl (by rfl) (fun _ _ _ h => h) ?_ ?_; rotate_left; · (intro w; go_simp <;> with_reducible rfl)); go_simp)
       refine doneD (UB hA) rfl ?_
       clear hA
       go_wp2_with fail
       go_meet
       exact ⟨UB R9, bb9⟩
     ·replace hA := UC hA2
      clear hA2
      have HK := UC hK
      clear hK
      have ba10 := UI (w := w2) (.cells #[.int .u8 32] 5)
      have NE10 : Hid (v2.ownBlock ≠ some w2.heap.size) := UC (fun c => by have := ((UB R2).lt _ c).2; omega)
      have R10 := UC ((UB R2).below ba10)
      have S10_7 : Hid (Sep w2.heap.size 5 (w2.alloc (.cells #[.int .u8 32] 5))) := UC (heap_alloc_new w2 (.cells #[.int .u8 32] 5))
      have bb10 := UG bb2 ba10
      clear ba10
      go_simp
      refine (UB HK).out _ _ (keepC_yes (UJ (UE bb10 (UB KBW))).2.1 VL) ?_
      clear HK K
      go_simp
      repeat ((refine lookD ?_ (UB hA) rfl rfl rfl (by rfl) (fun _ _ _ h => h) ?_ ?_; rotate_left; · (intro w; go_simp <;> with_reducible rfl)); go_simp)
      generalize w2.alloc (.cells #[.int .u8 32] 5) = w10 at *
      refine runD (UB hA) rfl rfl (by kernel_rfl) (by kernel_rfl) (fun K hK => ?_)
      have HK := UC hK
      clear hK
      go_simp
      refine (UB PY _).mono ?_
      rintro e w0_11 ⟨rfl, rfl⟩
      refine (UB HK).out _ _ (VB (by kernel_rfl) VL) ?_
      clear HK K
      go_simp
      repeat ((refine lookD ?_ (UB hA) rfl rfl rfl (by rfl) (fun _ _ _ h => h) ?_ ?_; rotate_left; · (intro w; go_simp <;> with_reducible rfl)); go_simp)
      refine runD (UB hA) rfl rfl (by kernel_rfl) (by kernel_rfl) (fun K hK => ?_)
      have HK := UC hK
      clear hK
      refine apps_wp (.tmp 15) (.tmp 18) 28 9 5 rfl Tryz.underlying28 Tryz.underlying9 VJ W.heap.size v2 (N ++ [32] ++ T ++ [32]) Y rfl rfl (UB YY) (UB R10) (by first | omega | (simp only [List.length_cons, List.length_nil]; omega) | (simp only [List.length_append]; omega) | (simp only [List.length_append, List.length_cons, List.length_nil]; omega)) (by first | omega | (simp only [List.length_cons, List.length_nil]; omega) | (simp only [List.length_append]; omega) | (simp only [List.length_append, List.length_cons, List.length_nil]; omega)) bb10.size ?_
      intro v12 w12 o12 g12 h12
      have bb12 : Below W.heap.size W w12 := bb10.grown g12 bb10.size (fun q hq => ((UB R10).lt q hq).1)
      have NE12 := UC (apart_next (UB S10_7) (UB NE10) h12)
      have S12_7 := UC ((UB S10_7).grown g12 (UB NE10))
      have R12 := UC o12
      clear o12 g12 h12
      refine (UB HK).out _ _ (VB (by kernel_rfl) VL) ?_
      clear HK K
      go_simp
      repeat ((refine lookD ?_ (UB hA) rfl rfl rfl (by rfl) (fun _ _ _ h => h) ?_ ?_; rotate_left; · (intro w; go_simp <;> with_reducible rfl)); go_simp)
      refine runD (UB hA) rfl rfl (by kernel_rfl) (by kernel_rfl) (fun K hK => ?_)
      have HK := UC hK
      clear hK
      refine app_wp (.tmp 19) (.tmp 20) 28 5 rfl Tryz.underlying28 VJ W.heap.size v12 _ (N ++ [32] ++ T ++ [32] ++ Y) [32] rfl rfl (.inl (UB R12)) (UB S12_7).reads (by first | omega | (simp only [List.length_cons, List.length_nil]; omega) | (simp only [List.length_append]; omega) | (simp only [List.length_append, List.length_cons, List.length_nil]; omega)) (by first | omega | (simp only [List.length_cons, List.length_nil]; omega) | (simp only [List.length_append]; omega) | (simp only [List.length_append, List.length_cons, List.length_nil]; omega)) bb12.size ?_
      intro v13 w13 o13 g13 h13
      have bb13 : Below W.heap.size W w13 := bb12.grown g13 bb12.size (fun q hq => ((UB R12).lt q hq).1)
      have R13 := UC o13
      clear o13 g13 h13
      refine (UB HK).out _ _ (VB (by kernel_rfl) VL) ?_
      clear HK K
      go_simp
      repeat ((refine lookD ?_ (UB hA) rfl rfl rfl (by rfl) (fun _ _ _ h => h) ?_ ?_; rotate_left; · (intro w; go_simp <;> with_reducible rfl)); go_simp)
      refine doneD (UB hA) rfl ?_
      clear hA
      go_wp2_with fail
      go_meet
      exact ⟨UB R13, bb13⟩
    ·replace hA := UC hA2
     clear hA2
     have HK := UC hK
     clear hK
     have ba14 := UI (w := w1) (.cells #[.int .u8 32] 5)
     have NE14 : Hid (u3.ownBlock ≠ some w1.heap.size) := UC (fun c => by have := ((UB R1).lt _ c).2; omega)
     have R14 := UC ((UB R1).below ba14)
     have S14_1 := UC ((UB S1_1).below ba14)
     have S14_7 : Hid (Sep w1.heap.size 5 (w1.alloc (.cells #[.int .u8 32] 5))) := UC (heap_alloc_new w1 (.cells #[.int .u8 32] 5))
     have bb14 := UG bb1 ba14
     clear ba14
     go_simp
     refine (UB HK).out _ _ (keepC_yes (UJ (UE bb14 (UB KBW))).2.1 VL) ?_
     clear HK K
     go_simp
     repeat ((refine lookD ?_ (UB hA) rfl rfl rfl (by rfl) (fun _ _ _ h => h) ?_ ?_; rotate_left; · (intro w; go_simp <;> with_reducible rfl)); go_simp)
     generalize w1.alloc (.cells #[.int .u8 32] 5) = w14 at *
     refine runD (UB hA) rfl rfl (by kernel_rfl) (by kernel_rfl) (fun K hK => ?_)
     have HK := UC hK
     clear hK
     refine app_wp (.tmp 13) (.tmp 14) 28 5 rfl Tryz.underlying28 VJ W.heap.size u3 _ (N ++ [32] ++ T) [32] rfl rfl (.inl (UB R14)) (UB S14_1).reads (by first | omega | (simp only [List.length_cons, List.length_nil]; omega) | (simp only [List.length_append]; omega) | (simp only [List.length_append, List.length_cons, List.length_nil]; omega)) (by first | omega | (simp only [List.length_cons, List.length_nil]; omega) | (simp only [List.length_append]; omega) | (simp only [List.length_append, List.length_cons, List.length_nil]; omega)) bb14.size ?_
     intro v15 w15 o15 g15 h15
     have bb15 : Below W.heap.size W w15 := bb14.grown g15 bb14.size (fun q hq => ((UB R14).lt q hq).1)
     have NE15 := UC (apart_next (UB S14_7) (UB NE14) h15)
     have S15_7 := UC ((UB S14_7).grown g15 (UB NE14))
     have R15 := UC o15
     clear o15 g15 h15
     refine (UB HK).out _ _ (keepC_yes (UJ (UE bb15 (UB KBW))).2.1 VL) ?_
     clear HK K
     go_simp
     repeat ((refine lookD ?_ (UB hA) rfl rfl rfl (by rfl) (fun _ _ _ h => h) ?_ ?_; rotate_left; · (intro w; go_simp <;> with_reducible rfl)); go_simp)
     refine runD (UB hA) rfl rfl (by kernel_rfl) (by kernel_rfl) (fun K hK => ?_)
     have HK := UC hK
     clear hK
     go_simp
     refine (UB PY _).mono ?_
     rintro e w0_16 ⟨rfl, rfl⟩
     refine (UB HK).out _ _ (VB (by kernel_rfl) VL) ?_
     clear HK K
     go_simp
     repeat ((refine lookD ?_ (UB hA) rfl rfl rfl (by rfl) (fun _ _ _ h => h) ?_ ?_; rotate_left; · (intro w; go_simp <;> with_reducible rfl)); go_simp)
     refine runD (UB hA) rfl rfl (by kernel_rfl) (by kernel_rfl) (fun K hK => ?_)
     have HK := UC hK
     clear hK
     refine apps_wp (.tmp 15) (.tmp 18) 28 9 5 rfl Tryz.underlying28 Tryz.underlying9 VJ W.heap.size v15 (N ++ [32] ++ T ++ [32]) Y rfl rfl (UB YY) (UB R15) (by first | omega | (simp only [List.length_cons, List.length_nil]; omega) | (simp only [List.length_append]; omega) | (simp only [List.length_append, List.length_cons, List.length_nil]; omega)) (by first | omega | (simp only [List.length_cons, List.length_nil]; omega) | (simp only [List.length_append]; omega) | (simp only [List.length_append, List.length_cons, List.length_nil]; omega)) bb15.size ?_
     intro v17 w17 o17 g17 h17
     have bb17 : Below W.heap.size W w17 := bb15.grown g17 bb15.size (fun q hq => ((UB R15).lt q hq).1)
     have NE17 := UC (apart_next (UB S15_7) (UB NE15) h17)
     have S17_7 := UC ((UB S15_7).grown g17 (UB NE15))
     have R17 := UC o17
     clear o17 g17 h17
     refine (UB HK).out _ _ (VB (by kernel_rfl) VL) ?_
     clear HK K
     go_simp
     repeat ((refine lookD ?_ (UB hA) rfl rfl rfl (by rfl) (fun _ _ _ h => h) ?_ ?_; rotate_left; · (intro w; go_simp <;> with_reducible rfl)); go_simp)
     refine runD (UB hA) rfl rfl (by kernel_rfl) (by kernel_rfl) (fun K hK => ?_)
     have HK := UC hK
     clear hK
     refine app_wp (.tmp 19) (.tmp 20) 28 5 rfl Tryz.underlying28 VJ W.heap.size v17 _ (N ++ [32] ++ T ++ [32] ++ Y) [32] rfl rfl (.inl (UB R17)) (UB S17_7).reads (by first | omega | (simp only [List.length_cons, List.length_nil]; omega) | (simp only [List.length_append]; omega) | (simp only [List.length_append, List.length_cons, List.length_nil]; omega)) (by first | omega | (simp only [List.length_cons, List.length_nil]; omega) | (simp only [List.length_append]; omega) | (simp only [List.length_append, List.length_cons, List.length_nil]; omega)) bb17.size ?_
     intro v18 w18 o18 g18 h18
     have bb18 : Below W.heap.size W w18 := bb17.grown g18 bb17.size (fun q hq => ((UB R17).lt q hq).1)
     have R18 := UC o18
     clear o18 g18 h18
     refine (UB HK).out _ _ (VB (by kernel_rfl) VL) ?_
     clear HK K
     go_simp
     repeat ((refine lookD ?_ (UB hA) rfl rfl rfl (by rfl) (fun _ _ _ h => h) ?_ ?_; rotate_left; · (intro w; go_simp <;> with_reducible rfl)); go_simp)
     refine doneD (UB hA) rfl ?_
     clear hA
     go_wp2_with fail
     go_meet
     exact ⟨UB R18, bb18⟩
   ·replace hA := UC hA2
    clear hA2
    have HK := UC hK
    clear hK
    have ba19 := UI (w := w0) (.cells #[.int .u8 32] 5)
    have NE19 : Hid (u3.ownBlock ≠ some w0.heap.size) := UC (fun c => by have := ((UB RD).lt _ c).2; omega)
    have R19 := UC ((UB RD).below ba19)
    have S19_7 : Hid (Sep w0.heap.size 5 (w0.alloc (.cells #[.int .u8 32] 5))) := UC (heap_alloc_new w0 (.cells #[.int .u8 32] 5))
    have bb19 := UG bb0 ba19
    clear ba19
    go_simp
    refine (UB HK).out _ _ (keepC_yes (UJ (UE bb19 (UB KBW))).2.1 VL) ?_
    clear HK K
    go_simp
    repeat ((refine lookD ?_ (UB hA) rfl rfl rfl (by rfl) (fun _ _ _ h => h) ?_ ?_; rotate_left; · (intro w; go_simp <;> with_reducible rfl)); go_simp)
    generalize w0.alloc (.cells #[.int .u8 32] 5) = w19 at *
    refine runD (UB hA) rfl rfl (by kernel_rfl) (by kernel_rfl) (fun K hK => ?_)
    have HK := UC hK
    clear hK
    have ba20 := UI (w := w19) (.cells #[.int .u8 32] 5)
    have NE20 : Hid (u3.ownBlock ≠ some w19.heap.size) := UC (fun c => by have := ((UB R19).lt _ c).2; omega)
    have R20 := UC ((UB R19).below ba20)
    have S20_7 := UC ((UB S19_7).below ba20)
    have S20_1 : Hid (Sep w19.heap.size 5 (w19.alloc (.cells #[.int .u8 32] 5))) := UC (heap_alloc_new w19 (.cells #[.int .u8 32] 5))
    have bb20 := UG bb19 ba20
    clear ba20
    go_simp
    refine (UB HK).out _ _ (keepC_yes (UJ (UE bb20 (UB KBW))).2.1 VL) ?_
    clear HK K
    go_simp
    repeat ((refine lookD ?_ (UB hA) rfl rfl rfl (by rfl) (fun _ _ _ h => h) ?_ ?_; rotate_left; · (intro w; go_simp <;> with_reducible rfl)); go_simp)
    generalize w19.alloc (.cells #[.int .u8 32] 5) = w20 at *
    refine runD (UB hA) rfl rfl (by kernel_rfl) (by kernel_rfl) (fun K hK => ?_)
    have HK := UC hK
    clear hK
    refine app_wp (.tmp 13) (.tmp 14) 28 5 rfl Tryz.underlying28 VJ W.heap.size u3 _ (N ++ [32] ++ T) [32] rfl rfl (.inl (UB R20)) (UB S20_1).reads (by first | omega | (simp only [List.length_cons, List.length_nil]; omega) | (simp only [List.length_append]; omega) | (simp only [List.length_append, List.length_cons, List.length_nil]; omega)) (by first | omega | (simp only [List.length_cons, List.length_nil]; omega) | (simp only [List.length_append]; omega) | (simp only [List.length_append, List.length_cons, List.length_nil]; omega)) bb20.size ?_
    intro v21 w21 o21 g21 h21
    have bb21 : Below W.heap.size W w21 := bb20.grown g21 bb20.size (fun q hq => ((UB R20).lt q hq).1)
    have NE21 := UC (apart_next (UB S20_7) (UB NE19) h21)
    have S21_7 := UC ((UB S20_7).grown g21 (UB NE19))
    have R21 := UC o21
    clear o21 g21 h21
    refine (UB HK).out _ _ (keepC_yes (UJ (UE bb21 (UB KBW))).2.1 VL) ?_
    clear HK K
    go_simp
    repeat ((refine lookD ?_ (UB hA) rfl rfl rfl (by rfl) (fun _ _ _ h => h) ?_ ?_; rotate_left; · (intro w; go_simp <;> with_reducible rfl)); go_simp)
    refine runD (UB hA) rfl rfl (by kernel_rfl) (by kernel_rfl) (fun K hK => ?_)
    have HK := UC hK
    clear hK
    go_simp
    refine (UB PY _).mono ?_
    rintro e w0_22 ⟨rfl, rfl⟩
    refine (UB HK).out _ _ (VB (by kernel_rfl) VL) ?_
    clear HK K
    go_simp
    repeat ((refine lookD ?_ (UB hA) rfl rfl rfl (by rfl) (fun _ _ _ h => h) ?_ ?_; rotate_left; · (intro w; go_simp <;> with_reducible rfl)); go_simp)
    refine runD (UB hA) rfl rfl (by kernel_rfl) (by kernel_rfl) (fun K hK => ?_)
    have HK := UC hK
    clear hK
    refine apps_wp (.tmp 15) (.tmp 18) 28 9 5 rfl Tryz.underlying28 Tryz.underlying9 VJ W.heap.size v21 (N ++ [32] ++ T ++ [32]) Y rfl rfl (UB YY) (UB R21) (by first | omega | (simp only [List.length_cons, List.length_nil]; omega) | (simp only [List.length_append]; omega) | (simp only [List.length_append, List.length_cons, List.length_nil]; omega)) (by first | omega | (simp only [List.length_cons, List.length_nil]; omega) | (simp only [List.length_append]; omega) | (simp only [List.length_append, List.length_cons, List.length_nil]; omega)) bb21.size ?_
    intro v23 w23 o23 g23 h23
    have bb23 : Below W.heap.size W w23 := bb21.grown g23 bb21.size (fun q hq => ((UB R21).lt q hq).1)
    have NE23 := UC (apart_next (UB S21_7) (UB NE21) h23)
    have S23_7 := UC ((UB S21_7).grown g23 (UB NE21))
    have R23 := UC o23
    clear o23 g23 h23
    refine (UB HK).out _ _ (VB (by kernel_rfl) VL) ?_
    clear HK K
    go_simp
    repeat ((refine lookD ?_ (UB hA) rfl rfl rfl (by rfl) (fun _ _ _ h => h) ?_ ?_; rotate_left; · (intro w; go_simp <;> with_reducible rfl)); go_simp)
    refine runD (UB hA) rfl rfl (by kernel_rfl) (by kernel_rfl) (fun K hK => ?_)
    have HK := UC hK
    clear hK
    refine app_wp (.tmp 19) (.tmp 20) 28 5 rfl Tryz.underlying28 VJ W.heap.size v23 _ (N ++ [32] ++ T ++ [32] ++ Y) [32] rfl rfl (.inl (UB R23)) (UB S23_7).reads (by first | omega | (simp only [List.length_cons, List.length_nil]; omega) | (simp only [List.length_append]; omega) | (simp only [List.length_append, List.length_cons, List.length_nil]; omega)) (by first | omega | (simp only [List.length_cons, List.length_nil]; omega) | (simp only [List.length_append]; omega) | (simp only [List.length_append, List.length_cons, List.length_nil]; omega)) bb23.size ?_
    intro v24 w24 o24 g24 h24
    have bb24 : Below W.heap.size W w24 := bb23.grown g24 bb23.size (fun q hq => ((UB R23).lt q hq).1)
    have R24 := UC o24
    clear o24 g24 h24
    refine (UB HK).out _ _ (VB (by kernel_rfl) VL) ?_
    clear HK K
    go_simp
    repeat ((refine lookD ?_ (UB hA) rfl rfl rfl (by rfl) (fun _ _ _ h => h) ?_ ?_; rotate_left; · (intro w; go_simp <;> with_reducible rfl)); go_simp)
    refine doneD (UB hA) rfl ?_
    clear hA
    go_wp2_with fail
    go_meet
    exact ⟨UB R24, bb24⟩
  case rest =>
   clear bb1 R0
   obtain ⟨o2, bb2⟩ := hcut
   have R2 := UC o2
   clear o2
   have zc := bb2.size
   obtain ⟨d0, d1, d2, d3, d4, d5, d6⟩ := UJ (UE bb2 (UB KBW))
   go_wp2_with fail
   refine (UB PD _).mono ?_
   rintro e w9 ⟨v9, rfl, o9, b9⟩
   go_wp2_with (at_builtin; refine append_bytes rfl _ _ 28 5 rfl Tryz.underlying28 VJ W.heap.size _ v9 (N ++ [32] ++ T ++ [32] ++ Y ++ [32]) D rfl rfl ((UB R2).below b9) o9.reads (by first | omega | (simp only [List.length_cons, List.length_nil]; omega) | (simp only [List.length_append]; omega) | (simp only [List.length_append, List.length_cons, List.length_nil]; omega)) (UG bb2 b9).size ?_)
   intro v10 w10 o10 g10
   replace o10 := UC (o10.mono zW)
   go_wp2_with fail
   go_ret
   exact ⟨v10, rfl, (by simpa only [List.append_assoc, List.cons_append, List.nil_append] using UB o10), UG b0 ((UG bb2 b9).grown g10 (UG bb2 b9).size (fun q hq => (((UB R2).below b9).lt q hq).1))⟩
end Go.Proofs.YtfpenlobnnlnfaaGreatDoor
