/-
  Contract of the program's RrText at one kind of data. Contract of the program's RrText at one kind of data.
-/
import Derived.Test.YtbabmdiklefgcaaGreatDoorFnRepliesG32
namespace Go.Proofs.YtbabmdiklefgcaaGreatDoor
open Go.RowKit
set_option linter.unusedVariables false

set_option maxHeartbeats 4000000 in
set_option maxRecDepth 100000 in
theorem rrText_N {na : Option Addr} {nc : Nat} {ta : Option Addr} {tc : Nat} {xa : Option Addr} {xc : Nat} {ia : Option Addr} {ic : Nat} {nm to : List (List Int)} {tx nu : List Int} {tt ad : Int} {w : World} {D : List Int} {ty : Int} (hk : kindV ty = .iface 134 (.agg #[.slice none 0 0])) (hto : typeOk ty = true) (h : HasR w (.slice na nm.length nc) (.slice ta to.length tc) (.slice xa tx.length xc) (.slice ia nu.length ic) ⟨nm, ty, tt, ad, to, tx, nu⟩) (hok : rrOk ⟨nm, ty, tt, ad, to, tx, nu⟩ = true) (ht : Pow10 w)
  (PA : ∀ w1, Below w.heap.size w w1 → Calls Tryz.prog 156 #[.agg #[.slice ta to.length tc]] w1 fun e w' => ∃ v', e = .returned v' ∧ Own w1.heap.size 5 w' v' D ∧ Below w1.heap.size w1 w') (hD : Byt D) (hDl : D.length ≤ 120) :
  Calls Tryz.prog 47 #[.agg #[.slice na nm.length nc, .int .i64 ty, .int .i64 tt, .int .i64 ad, .slice ta to.length tc, .slice xa tx.length xc, .slice ia nu.length ic]] w fun e w' => ∃ v', e = .returned v' ∧ Fr w.heap.size w'.heap.size w' v' (nameText nm ++ [32] ++ digs tt ++ [32] ++ typeT ty ++ [32] ++ D) ∧ Below w.heap.size w w' := by
 have b0 := UI (w := w) (.cells #[.slice na nm.length nc, .int .i64 ty, .int .i64 tt, .int .i64 ad, .slice ta to.length tc, .slice xa tx.length xc, .slice ia nu.length ic] 63)
 have K0 := UC (heap_alloc_new w (.cells #[.slice na nm.length nc, .int .i64 ty, .int .i64 tt, .int .i64 ad, .slice ta to.length tc, .slice xa tx.length xc, .slice ia nu.length ic] 63))
 have HO := implRrOk_has (h.below b0)
 rw [hok] at HO
 replace HO := UC HO
 have PW := UC PA
 have F0 := UC (h.name.below b0)
 have HT := UC (ht.below b0)
 obtain ⟨_, hty, h0, h1, _⟩ := rrOk_parts hok
 simp only at hty h0 h1
 have PY := UC (show ∀ w1, Calls Tryz.prog 76 #[.int .i64 ty] w1 fun e w' => ∃ v', e = .returned v' ∧ Has w' v' (typeT ty) ∧ Below w1.heap.size w1 w' from fun w1 => implTypeText_has hty)
 have YA := UC (nameText_byt nm)
 have YT := UC (digs_byt tt)
 have YY := UC (typeT_byt ty)
 have YD := UC hD
 have PI := UC (show ∀ w1, Pow10 w1 → Calls Tryz.prog 75 #[.slice none 0 0, .int .i64 tt, .int .i64 10] w1 fun e w' => ∃ v', e = .returned v' ∧ Own w1.heap.size 5 w' v' (digs tt) ∧ Below w1.heap.size w1 w' from fun w1 hp => by
  have := appendInt_own2 (B := w1.heap.size) (v := .slice none 0 0) (l := []) (w := w1) tt (World.ownsRow_nil _ _ _ _) (by simp) h0 (by omega) (Nat.le_refl _) (Lib.tabBelow_of_tabIs hp)
  rwa [List.nil_append] at this)
 have HLE : Hid ((nameText nm).length + (digs tt).length + (typeT ty).length + D.length ≤ 1000) := UC (by
  have := nameText_length nm
  have := digs_ten h0 (by omega)
  have := typeT_length ty
  omega)
 have PN := UC (show ∀ w1, HasL w1 (.slice na nm.length nc) nm → Calls Tryz.prog 21 #[.agg #[.slice na nm.length nc]] w1 fun e w' => ∃ v', e = .returned v' ∧ Own w1.heap.size 5 w' v' (nameText nm) ∧ Below w1.heap.size w1 w' from fun w1 hh => implNameText_has hh)
 have HKK := UC hk
 have HTO := UC hto
 clear h hok PA ht hty hD hDl hk hto
 generalize nameText nm = N at *
 generalize digs tt = T at *
 generalize hY : typeT ty = Y at *
 clear hY
 go_enter Tryz.func47, Tryz.ntmps47
 go_wp2_with fail
 generalize w.alloc (.cells #[.slice na nm.length nc, .int .i64 ty, .int .i64 tt, .int .i64 ad, .slice ta to.length tc, .slice xa tx.length xc, .slice ia nu.length ic] 63) = W at *
 refine (UB HO).mono ?_
 rintro e w1 ⟨rfl, b1⟩
 have KB1 := UE b1 (UB K0)
 obtain ⟨d0, d1, d2, d3, d4, d5, d6⟩ := UJ KB1
 have bb1 := UG b0 b1
 have z1 := bb1.size
 have P1 := (UB HT).below b1
 have F1 := (UB F0).below b1
 go_wp2_with fail
 refine (UB PI _ P1).mono ?_
 rintro e w2 ⟨v2, rfl, o2, b2⟩
 go_wp2_with fail
 have bd := UX (w := w2)
 have c3 := UG b2 bd
 have KB := UC (UE c3 KB1)
 have FN := UC (F1.below c3)
 have T2 := UC (o2.has.below bd)
 have bb3 := UG bb1 c3
 clear d0 d1 d2 d3 d4 d5 d6 KB1 F1 P1 o2 b2 bd c3 b1 b0 K0 F0
 refine startC [0, 1, 3, 4, 5, 7, 2, 6, 8, 9, 10, 11] (by kernel_rfl) ⟨by kernel_rfl, by kernel_rfl, by kernel_rfl, by kernel_rfl⟩ 6 [(1, fun w' => w'.cell? ⟨w.heap.size, 0, none⟩ = some (.slice na nm.length nc)), (5, fun w' => w'.cell? ⟨w.heap.size, 1, none⟩ = some (.int .i64 ty)), (7, fun w' => w'.cell? ⟨w.heap.size, 0, none⟩ = some (.slice na nm.length nc) ∧ w'.cell? ⟨w.heap.size, 1, none⟩ = some (.int .i64 ty) ∧ w'.cell? ⟨w.heap.size, 2, none⟩ = some (.int .i64 tt) ∧ w'.cell? ⟨w.heap.size, 3, none⟩ = some (.int .i64 ad) ∧ w'.cell? ⟨w.heap.size, 4, none⟩ = some (.slice ta to.length tc) ∧ w'.cell? ⟨w.heap.size, 5, none⟩ = some (.slice xa tx.length xc) ∧ w'.cell? ⟨w.heap.size, 6, none⟩ = some (.slice ia nu.length ic))] (fun hA => ?_)
 replace hA := UC hA
 repeat ((first | (refine VN ?_ (UB hA) rfl rfl rfl (by rfl) (fun _ _ _ h => h) ?_ ?_; rotate_left; · (intro w; go_simp <;> with_reducible rfl)) | refine VM (UB hA) rfl rfl (by rfl) (fun _ _ _ h => h) ?_); go_simp)
 refine takeC ?_ (UB hA) rfl rfl rfl (by rfl) (fun _ _ _ h => h) (.head _) (UJ (UB KB)).1 ?_ ?_; rotate_left; (· (intro w hSw; (try dsimp only at hSw); go_simp <;> with_reducible rfl)); go_simp
 repeat ((first | (refine VN ?_ (UB hA) rfl rfl rfl (by rfl) (fun _ _ _ h => h) ?_ ?_; rotate_left; · (intro w; go_simp <;> with_reducible rfl)) | refine VM (UB hA) rfl rfl (by rfl) (fun _ _ _ h => h) ?_); go_simp)
 refine takeC ?_ (UB hA) rfl rfl rfl (by rfl) (fun _ _ _ h => h) (.tail _ (.head _)) (UJ (UB KB)).2.1 ?_ ?_; rotate_left; (· (intro w hSw; (try dsimp only at hSw); go_simp <;> with_reducible rfl)); go_simp
 repeat ((first | (refine VN ?_ (UB hA) rfl rfl rfl (by rfl) (fun _ _ _ h => h) ?_ ?_; rotate_left; · (intro w; go_simp <;> with_reducible rfl)) | refine VM (UB hA) rfl rfl (by rfl) (fun _ _ _ h => h) ?_); go_simp)
 refine takeC ?_ (UB hA) rfl rfl rfl (by rfl) (fun _ _ _ h => h) (.tail _ (.tail _ (.head _))) (UJ (UB KB)) ?_ ?_; rotate_left; (· (intro w hSw; (try dsimp only at hSw); go_simp <;> with_reducible rfl)); go_simp
 repeat ((first | (refine VN ?_ (UB hA) rfl rfl rfl (by rfl) (fun _ _ _ h => h) ?_ ?_; rotate_left; · (intro w; go_simp <;> with_reducible rfl)) | refine VM (UB hA) rfl rfl (by rfl) (fun _ _ _ h => h) ?_); go_simp)
 refine runC (UB hA) rfl rfl (by kernel_rfl) (by kernel_rfl) (fun K hK => ?_)
 have HK := UC hK
 clear hK
 go_simp
 refine (UB PN _ (UB FN)).mono ?_
 rintro e w4 ⟨v4, rfl, o4, b4⟩
 have KB4 := UC (UE b4 (UB KB))
 have A4 := UC o4.has
 have T4 := UC ((UB T2).below b4)
 have bb4 := UG bb3 b4
 clear b4 o4
 refine (UB HK).out _ _ (VB (by kernel_rfl) (keepC_yes (UJ (UB KB4)).2.1 (keepC_yes (UJ (UB KB4)) VL))) ?_
 clear HK K
 go_simp
 repeat ((first | (refine VN ?_ (UB hA) rfl rfl rfl (by rfl) (fun _ _ _ h => h) ?_ ?_; rotate_left; · (intro w; go_simp <;> with_reducible rfl)) | refine VM (UB hA) rfl rfl (by rfl) (fun _ _ _ h => h) ?_); go_simp)
 refine runC (UB hA) rfl rfl (by kernel_rfl) (by kernel_rfl) (fun K hK => ?_)
 have HK := UC hK
 clear hK
 go_simp
 refine (UB PY _).mono ?_
 rintro e w5 ⟨v5, rfl, o5, b5⟩
 have KB5 := UC (UE b5 (UB KB4))
 have A5 := UC ((UB A4).below b5)
 have T5 := UC ((UB T4).below b5)
 have Y5 := UC o5
 have bb5 := UG bb4 b5
 clear b5 o5
 refine (UB HK).out _ _ (VB (by kernel_rfl) (VB (by kernel_rfl) (keepC_yes (UJ (UB KB5)) VL))) ?_
 clear HK K
 go_simp
 repeat ((first | (refine VN ?_ (UB hA) rfl rfl rfl (by rfl) (fun _ _ _ h => h) ?_ ?_; rotate_left; · (intro w; go_simp <;> with_reducible rfl)) | refine VM (UB hA) rfl rfl (by rfl) (fun _ _ _ h => h) ?_); go_simp)
 refine runC (UB hA) rfl rfl (by kernel_rfl) (by kernel_rfl) (fun K hK => ?_)
 have HK := UC hK
 clear hK
 go_simp
 refine (dataOf_N (na := na) (nc := nc) (ta := ta) (tc := tc) (xa := xa) (xc := xc) (ia := ia) (ic := ic) (nm := nm) (to := to) (tx := tx) (nu := nu) (tt := tt) (ad := ad) (UB HKK) (UB HTO)).mono ?_
 rintro e w6 ⟨rfl, b6⟩
 have A6 := UC ((UB A5).below b6)
 have T6 := UC ((UB T5).below b6)
 have Y6 := UC ((UB Y5).below b6)
 have bb6 := UG bb5 b6
 clear b6
 refine (UB HK).out _ _ (VB (by kernel_rfl) (VB (by kernel_rfl) (VB (by kernel_rfl) VL))) ?_
 clear HK K
 go_simp
 repeat ((first | (refine VN ?_ (UB hA) rfl rfl rfl (by rfl) (fun _ _ _ h => h) ?_ ?_; rotate_left; · (intro w; go_simp <;> with_reducible rfl)) | refine VM (UB hA) rfl rfl (by rfl) (fun _ _ _ h => h) ?_); go_simp)
 refine runC (UB hA) rfl rfl (by kernel_rfl) (by kernel_rfl) (fun K hK => ?_)
 have HK := UC hK
 clear hK
 go_simp
 refine (UB PW _ bb6).mono ?_
 rintro e w7 ⟨v7, rfl, o7, b7⟩
 have A7 := UC ((UB A6).below b7)
 have T7 := UC ((UB T6).below b7)
 have Y7 := UC ((UB Y6).below b7)
 have D7 := UC o7.has
 have bb7 := UG bb6 b7
 have z7 := bb7.size
 clear b7 o7
 refine (UB HK).out _ _ (VB (by kernel_rfl) (VB (by kernel_rfl) (VB (by kernel_rfl) VL))) ?_
 clear HK K
 go_simp
 repeat ((first | (refine VN ?_ (UB hA) rfl rfl rfl (by rfl) (fun _ _ _ h => h) ?_ ?_; rotate_left; · (intro w; go_simp <;> with_reducible rfl)) | refine VM (UB hA) rfl rfl (by rfl) (fun _ _ _ h => h) ?_); go_simp)
 obtain ⟨ea4, ec4, rfl, _⟩ := (UB A7).form
 obtain ⟨ea2, ec2, rfl, _⟩ := (UB T7).form
 obtain ⟨ea5, ec5, rfl, _⟩ := (UB Y7).form
 obtain ⟨ea7, ec7, rfl, _⟩ := (UB D7).form
 have b8 := (UI (w := w7) (.cells #[.slice ea4 N.length ec4, .slice ea2 T.length ec2, .slice ea5 Y.length ec5, .slice ea7 D.length ec7] 22))
 have k8 := heap_alloc_new w7 (.cells #[.slice ea4 N.length ec4, .slice ea2 T.length ec2, .slice ea5 Y.length ec5, .slice ea7 D.length ec7] 22)
 refine runC (UB hA) rfl rfl (by kernel_rfl) (by kernel_rfl) (fun K hK => ?_)
 have HK := UC hK
 clear hK
 go_simp
 refine (UB HK).out _ _ (VB (by kernel_rfl) (VB (by kernel_rfl) (VB (by kernel_rfl) VL))) ?_
 clear HK K
 go_simp
 repeat ((first | (refine VN ?_ (UB hA) rfl rfl rfl (by rfl) (fun _ _ _ h => h) ?_ ?_; rotate_left; · (intro w; go_simp <;> with_reducible rfl)) | refine VM (UB hA) rfl rfl (by rfl) (fun _ _ _ h => h) ?_); go_simp)
 refine doneC (UB hA) rfl ?_
 clear hA
 have hz8 : (w7.alloc (.cells #[.slice ea4 N.length ec4, .slice ea2 T.length ec2, .slice ea5 Y.length ec5, .slice ea7 D.length ec7] 22)).heap.size = w7.heap.size + 1 := by show (w7.heap.push _).size = _; simp
 have b9 := UI (w := w7.alloc (.cells #[.slice ea4 N.length ec4, .slice ea2 T.length ec2, .slice ea5 Y.length ec5, .slice ea7 D.length ec7] 22)) (.cells #[.int .u8 32] 5)
 have K9 := UC (UE b9 k8)
 have S9 : Hid (Has ((w7.alloc (.cells #[.slice ea4 N.length ec4, .slice ea2 T.length ec2, .slice ea5 Y.length ec5, .slice ea7 D.length ec7] 22)).alloc (.cells #[.int .u8 32] 5)) (.slice (some ⟨w7.heap.size + 1, 0, none⟩) 1 1) [32]) := UC (by rw [← hz8]; exact (own_lit (w7.alloc (.cells #[.slice ea4 N.length ec4, .slice ea2 T.length ec2, .slice ea5 Y.length ec5, .slice ea7 D.length ec7] 22)) 0 5 [32] (Nat.zero_le _) (by simp [maxLen])).has)
 have c9 := UG b8 b9
 have A9 := UC ((UB A7).below c9)
 have T9 := UC ((UB T7).below c9)
 have Y9 := UC ((UB Y7).below c9)
 have D9 := UC ((UB D7).below c9)
 have bb9 := UG bb7 c9
 clear b8 k8 b9 c9 hz8
 go_wp2_with fail
 generalize (w7.alloc (.cells #[.slice ea4 N.length ec4, .slice ea2 T.length ec2, .slice ea5 Y.length ec5, .slice ea7 D.length ec7] 22)).alloc (.cells #[.int .u8 32] 5) = w9 at *
 refine (join4 (UB K9) (UB A9) (UB T9) (UB Y9) (UB D9) (UB S9) (UB YA) (UB YT) (UB YY) (UB YD) (UB HLE)).mono ?_
 rintro e w10 ⟨v10, rfl, o10, b10⟩
 go_wp2_with fail
 go_ret
 exact ⟨v10, rfl, fr_wide o10 bb9.size, UG bb9 b10⟩
set_option maxHeartbeats 4000000 in
set_option maxRecDepth 100000 in
theorem rrText_S {na : Option Addr} {nc : Nat} {ta : Option Addr} {tc : Nat} {xa : Option Addr} {xc : Nat} {ia : Option Addr} {ic : Nat} {nm to : List (List Int)} {tx nu : List Int} {tt ad : Int} {w : World} {D : List Int} (h : HasR w (.slice na nm.length nc) (.slice ta to.length tc) (.slice xa tx.length xc) (.slice ia nu.length ic) ⟨nm, 6, tt, ad, to, tx, nu⟩) (hok : rrOk ⟨nm, 6, tt, ad, to, tx, nu⟩ = true) (ht : Pow10 w)
  (PA : ∀ w1, Below w.heap.size w w1 → Calls Tryz.prog 160 #[.agg #[.slice ta to.length tc, .slice ia nu.length ic]] w1 fun e w' => ∃ v', e = .returned v' ∧ Own w1.heap.size 5 w' v' D ∧ Below w1.heap.size w1 w') (hD : Byt D) (hDl : D.length ≤ 120) :
  Calls Tryz.prog 47 #[.agg #[.slice na nm.length nc, .int .i64 6, .int .i64 tt, .int .i64 ad, .slice ta to.length tc, .slice xa tx.length xc, .slice ia nu.length ic]] w fun e w' => ∃ v', e = .returned v' ∧ Fr w.heap.size w'.heap.size w' v' (nameText nm ++ [32] ++ digs tt ++ [32] ++ typeT 6 ++ [32] ++ D) ∧ Below w.heap.size w w' := by
 have b0 := UI (w := w) (.cells #[.slice na nm.length nc, .int .i64 6, .int .i64 tt, .int .i64 ad, .slice ta to.length tc, .slice xa tx.length xc, .slice ia nu.length ic] 63)
 have K0 := UC (heap_alloc_new w (.cells #[.slice na nm.length nc, .int .i64 6, .int .i64 tt, .int .i64 ad, .slice ta to.length tc, .slice xa tx.length xc, .slice ia nu.length ic] 63))
 have HO := implRrOk_has (h.below b0)
 rw [hok] at HO
 replace HO := UC HO
 have PW := UC PA
 have F0 := UC (h.name.below b0)
 have HT := UC (ht.below b0)
 obtain ⟨_, hty, h0, h1, _⟩ := rrOk_parts hok
 simp only at hty h0 h1
 have PY := UC (show ∀ w1, Calls Tryz.prog 76 #[.int .i64 6] w1 fun e w' => ∃ v', e = .returned v' ∧ Has w' v' (typeT 6) ∧ Below w1.heap.size w1 w' from fun w1 => implTypeText_has hty)
 have YA := UC (nameText_byt nm)
 have YT := UC (digs_byt tt)
 have YY := UC (typeT_byt 6)
 have YD := UC hD
 have PI := UC (show ∀ w1, Pow10 w1 → Calls Tryz.prog 75 #[.slice none 0 0, .int .i64 tt, .int .i64 10] w1 fun e w' => ∃ v', e = .returned v' ∧ Own w1.heap.size 5 w' v' (digs tt) ∧ Below w1.heap.size w1 w' from fun w1 hp => by
  have := appendInt_own2 (B := w1.heap.size) (v := .slice none 0 0) (l := []) (w := w1) tt (World.ownsRow_nil _ _ _ _) (by simp) h0 (by omega) (Nat.le_refl _) (Lib.tabBelow_of_tabIs hp)
  rwa [List.nil_append] at this)
 have HLE : Hid ((nameText nm).length + (digs tt).length + (typeT 6).length + D.length ≤ 1000) := UC (by
  have := nameText_length nm
  have := digs_ten h0 (by omega)
  have := typeT_length 6
  omega)
 have PN := UC (show ∀ w1, HasL w1 (.slice na nm.length nc) nm → Calls Tryz.prog 21 #[.agg #[.slice na nm.length nc]] w1 fun e w' => ∃ v', e = .returned v' ∧ Own w1.heap.size 5 w' v' (nameText nm) ∧ Below w1.heap.size w1 w' from fun w1 hh => implNameText_has hh)
 skip
 clear h hok PA ht hty hD hDl
 generalize nameText nm = N at *
 generalize digs tt = T at *
 generalize hY : typeT 6 = Y at *
 clear hY
 go_enter Tryz.func47, Tryz.ntmps47
 go_wp2_with fail
 generalize w.alloc (.cells #[.slice na nm.length nc, .int .i64 6, .int .i64 tt, .int .i64 ad, .slice ta to.length tc, .slice xa tx.length xc, .slice ia nu.length ic] 63) = W at *
 refine (UB HO).mono ?_
 rintro e w1 ⟨rfl, b1⟩
 have KB1 := UE b1 (UB K0)
 obtain ⟨d0, d1, d2, d3, d4, d5, d6⟩ := UJ KB1
 have bb1 := UG b0 b1
 have z1 := bb1.size
 have P1 := (UB HT).below b1
 have F1 := (UB F0).below b1
 go_wp2_with fail
 refine (UB PI _ P1).mono ?_
 rintro e w2 ⟨v2, rfl, o2, b2⟩
 go_wp2_with fail
 have bd := UX (w := w2)
 have c3 := UG b2 bd
 have KB := UC (UE c3 KB1)
 have FN := UC (F1.below c3)
 have T2 := UC (o2.has.below bd)
 have bb3 := UG bb1 c3
 clear d0 d1 d2 d3 d4 d5 d6 KB1 F1 P1 o2 b2 bd c3 b1 b0 K0 F0
 refine startC [0, 1, 3, 4, 5, 7, 2, 6, 8, 9, 10, 11] (by kernel_rfl) ⟨by kernel_rfl, by kernel_rfl, by kernel_rfl, by kernel_rfl⟩ 6 [(1, fun w' => w'.cell? ⟨w.heap.size, 0, none⟩ = some (.slice na nm.length nc)), (5, fun w' => w'.cell? ⟨w.heap.size, 1, none⟩ = some (.int .i64 6)), (7, fun w' => w'.cell? ⟨w.heap.size, 0, none⟩ = some (.slice na nm.length nc) ∧ w'.cell? ⟨w.heap.size, 1, none⟩ = some (.int .i64 6) ∧ w'.cell? ⟨w.heap.size, 2, none⟩ = some (.int .i64 tt) ∧ w'.cell? ⟨w.heap.size, 3, none⟩ = some (.int .i64 ad) ∧ w'.cell? ⟨w.heap.size, 4, none⟩ = some (.slice ta to.length tc) ∧ w'.cell? ⟨w.heap.size, 5, none⟩ = some (.slice xa tx.length xc) ∧ w'.cell? ⟨w.heap.size, 6, none⟩ = some (.slice ia nu.length ic))] (fun hA => ?_)
 replace hA := UC hA
 repeat ((first | (refine VN ?_ (UB hA) rfl rfl rfl (by rfl) (fun _ _ _ h => h) ?_ ?_; rotate_left; · (intro w; go_simp <;> with_reducible rfl)) | refine VM (UB hA) rfl rfl (by rfl) (fun _ _ _ h => h) ?_); go_simp)
 refine takeC ?_ (UB hA) rfl rfl rfl (by rfl) (fun _ _ _ h => h) (.head _) (UJ (UB KB)).1 ?_ ?_; rotate_left; (· (intro w hSw; (try dsimp only at hSw); go_simp <;> with_reducible rfl)); go_simp
 repeat ((first | (refine VN ?_ (UB hA) rfl rfl rfl (by rfl) (fun _ _ _ h => h) ?_ ?_; rotate_left; · (intro w; go_simp <;> with_reducible rfl)) | refine VM (UB hA) rfl rfl (by rfl) (fun _ _ _ h => h) ?_); go_simp)
 refine takeC ?_ (UB hA) rfl rfl rfl (by rfl) (fun _ _ _ h => h) (.tail _ (.head _)) (UJ (UB KB)).2.1 ?_ ?_; rotate_left; (· (intro w hSw; (try dsimp only at hSw); go_simp <;> with_reducible rfl)); go_simp
 repeat ((first | (refine VN ?_ (UB hA) rfl rfl rfl (by rfl) (fun _ _ _ h => h) ?_ ?_; rotate_left; · (intro w; go_simp <;> with_reducible rfl)) | refine VM (UB hA) rfl rfl (by rfl) (fun _ _ _ h => h) ?_); go_simp)
 refine takeC ?_ (UB hA) rfl rfl rfl (by rfl) (fun _ _ _ h => h) (.tail _ (.tail _ (.head _))) (UJ (UB KB)) ?_ ?_; rotate_left; (· (intro w hSw; (try dsimp only at hSw); go_simp <;> with_reducible rfl)); go_simp
 repeat ((first | (refine VN ?_ (UB hA) rfl rfl rfl (by rfl) (fun _ _ _ h => h) ?_ ?_; rotate_left; · (intro w; go_simp <;> with_reducible rfl)) | refine VM (UB hA) rfl rfl (by rfl) (fun _ _ _ h => h) ?_); go_simp)
 refine runC (UB hA) rfl rfl (by kernel_rfl) (by kernel_rfl) (fun K hK => ?_)
 have HK := UC hK
 clear hK
 go_simp
 refine (UB PN _ (UB FN)).mono ?_
 rintro e w4 ⟨v4, rfl, o4, b4⟩
 have KB4 := UC (UE b4 (UB KB))
 have A4 := UC o4.has
 have T4 := UC ((UB T2).below b4)
 have bb4 := UG bb3 b4
 clear b4 o4
 refine (UB HK).out _ _ (VB (by kernel_rfl) (keepC_yes (UJ (UB KB4)).2.1 (keepC_yes (UJ (UB KB4)) VL))) ?_
 clear HK K
 go_simp
 repeat ((first | (refine VN ?_ (UB hA) rfl rfl rfl (by rfl) (fun _ _ _ h => h) ?_ ?_; rotate_left; · (intro w; go_simp <;> with_reducible rfl)) | refine VM (UB hA) rfl rfl (by rfl) (fun _ _ _ h => h) ?_); go_simp)
 refine runC (UB hA) rfl rfl (by kernel_rfl) (by kernel_rfl) (fun K hK => ?_)
 have HK := UC hK
 clear hK
 go_simp
 refine (UB PY _).mono ?_
 rintro e w5 ⟨v5, rfl, o5, b5⟩
 have KB5 := UC (UE b5 (UB KB4))
 have A5 := UC ((UB A4).below b5)
 have T5 := UC ((UB T4).below b5)
 have Y5 := UC o5
 have bb5 := UG bb4 b5
 clear b5 o5
 refine (UB HK).out _ _ (VB (by kernel_rfl) (VB (by kernel_rfl) (keepC_yes (UJ (UB KB5)) VL))) ?_
 clear HK K
 go_simp
 repeat ((first | (refine VN ?_ (UB hA) rfl rfl rfl (by rfl) (fun _ _ _ h => h) ?_ ?_; rotate_left; · (intro w; go_simp <;> with_reducible rfl)) | refine VM (UB hA) rfl rfl (by rfl) (fun _ _ _ h => h) ?_); go_simp)
 refine runC (UB hA) rfl rfl (by kernel_rfl) (by kernel_rfl) (fun K hK => ?_)
 have HK := UC hK
 clear hK
 go_simp
 refine (dataOf_S (na := na) (nc := nc) (ta := ta) (tc := tc) (xa := xa) (xc := xc) (ia := ia) (ic := ic) (nm := nm) (to := to) (tx := tx) (nu := nu) (tt := tt) (ad := ad)).mono ?_
 rintro e w6 ⟨rfl, b6⟩
 have A6 := UC ((UB A5).below b6)
 have T6 := UC ((UB T5).below b6)
 have Y6 := UC ((UB Y5).below b6)
 have bb6 := UG bb5 b6
 clear b6
 refine (UB HK).out _ _ (VB (by kernel_rfl) (VB (by kernel_rfl) (VB (by kernel_rfl) VL))) ?_
 clear HK K
 go_simp
 repeat ((first | (refine VN ?_ (UB hA) rfl rfl rfl (by rfl) (fun _ _ _ h => h) ?_ ?_; rotate_left; · (intro w; go_simp <;> with_reducible rfl)) | refine VM (UB hA) rfl rfl (by rfl) (fun _ _ _ h => h) ?_); go_simp)
 refine runC (UB hA) rfl rfl (by kernel_rfl) (by kernel_rfl) (fun K hK => ?_)
 have HK := UC hK
 clear hK
 go_simp
 refine (UB PW _ bb6).mono ?_
 rintro e w7 ⟨v7, rfl, o7, b7⟩
 have A7 := UC ((UB A6).below b7)
 have T7 := UC ((UB T6).below b7)
 have Y7 := UC ((UB Y6).below b7)
 have D7 := UC o7.has
 have bb7 := UG bb6 b7
 have z7 := bb7.size
 clear b7 o7
 refine (UB HK).out _ _ (VB (by kernel_rfl) (VB (by kernel_rfl) (VB (by kernel_rfl) VL))) ?_
 clear HK K
 go_simp
 repeat ((first | (refine VN ?_ (UB hA) rfl rfl rfl (by rfl) (fun _ _ _ h => h) ?_ ?_; rotate_left; · (intro w; go_simp <;> with_reducible rfl)) | refine VM (UB hA) rfl rfl (by rfl) (fun _ _ _ h => h) ?_); go_simp)
 obtain ⟨ea4, ec4, rfl, _⟩ := (UB A7).form
 obtain ⟨ea2, ec2, rfl, _⟩ := (UB T7).form
 obtain ⟨ea5, ec5, rfl, _⟩ := (UB Y7).form
 obtain ⟨ea7, ec7, rfl, _⟩ := (UB D7).form
 have b8 := (UI (w := w7) (.cells #[.slice ea4 N.length ec4, .slice ea2 T.length ec2, .slice ea5 Y.length ec5, .slice ea7 D.length ec7] 22))
 have k8 := heap_alloc_new w7 (.cells #[.slice ea4 N.length ec4, .slice ea2 T.length ec2, .slice ea5 Y.length ec5, .slice ea7 D.length ec7] 22)
 refine runC (UB hA) rfl rfl (by kernel_rfl) (by kernel_rfl) (fun K hK => ?_)
 have HK := UC hK
 clear hK
 go_simp
 refine (UB HK).out _ _ (VB (by kernel_rfl) (VB (by kernel_rfl) (VB (by kernel_rfl) VL))) ?_
 clear HK K
 go_simp
 repeat ((first | (refine VN ?_ (UB hA) rfl rfl rfl (by rfl) (fun _ _ _ h => h) ?_ ?_; rotate_left; · (intro w; go_simp <;> with_reducible rfl)) | refine VM (UB hA) rfl rfl (by rfl) (fun _ _ _ h => h) ?_); go_simp)
 refine doneC (UB hA) rfl ?_
 clear hA
 have hz8 : (w7.alloc (.cells #[.slice ea4 N.length ec4, .slice ea2 T.length ec2, .slice ea5 Y.length ec5, .slice ea7 D.length ec7] 22)).heap.size = w7.heap.size + 1 := by show (w7.heap.push _).size = _; simp
 have b9 := UI (w := w7.alloc (.cells #[.slice ea4 N.length ec4, .slice ea2 T.length ec2, .slice ea5 Y.length ec5, .slice ea7 D.length ec7] 22)) (.cells #[.int .u8 32] 5)
 have K9 := UC (UE b9 k8)
 have S9 : Hid (Has ((w7.alloc (.cells #[.slice ea4 N.length ec4, .slice ea2 T.length ec2, .slice ea5 Y.length ec5, .slice ea7 D.length ec7] 22)).alloc (.cells #[.int .u8 32] 5)) (.slice (some ⟨w7.heap.size + 1, 0, none⟩) 1 1) [32]) := UC (by rw [← hz8]; exact (own_lit (w7.alloc (.cells #[.slice ea4 N.length ec4, .slice ea2 T.length ec2, .slice ea5 Y.length ec5, .slice ea7 D.length ec7] 22)) 0 5 [32] (Nat.zero_le _) (by simp [maxLen])).has)
 have c9 := UG b8 b9
 have A9 := UC ((UB A7).below c9)
 have T9 := UC ((UB T7).below c9)
 have Y9 := UC ((UB Y7).below c9)
 have D9 := UC ((UB D7).below c9)
 have bb9 := UG bb7 c9
 clear b8 k8 b9 c9 hz8
 go_wp2_with fail
 generalize (w7.alloc (.cells #[.slice ea4 N.length ec4, .slice ea2 T.length ec2, .slice ea5 Y.length ec5, .slice ea7 D.length ec7] 22)).alloc (.cells #[.int .u8 32] 5) = w9 at *
 refine (join4 (UB K9) (UB A9) (UB T9) (UB Y9) (UB D9) (UB S9) (UB YA) (UB YT) (UB YY) (UB YD) (UB HLE)).mono ?_
 rintro e w10 ⟨v10, rfl, o10, b10⟩
 go_wp2_with fail
 go_ret
 exact ⟨v10, rfl, fr_wide o10 bb9.size, UG bb9 b10⟩
end Go.Proofs.YtbabmdiklefgcaaGreatDoor
