/-
  Contract of the program's MsgText. Contract of the program's MsgText, whole. Plain facts: one byte, made anew. No program is named here. Contracts of the specification's l1digits (of a byte) and l1dotted. Contracts of the specification's l1digits, up to 4294967295. Contracts of the specification's l2text.
-/
import Derived.Test.YtfpenlobnnlnfaaGreatDoorMsgTextG21
import Derived.Test.YtfpenlobnnlnfaaGreatDoorMsgTextG26
import Derived.Deep.Cut
import Derived.Test.YtfpenlobnnlnfaaGreatDoorMsgTextG00
import Derived.Test.YtfpenlobnnlnfaaGreatDoorMsgTextG03
import Derived.Test.YtfpenlobnnlnfaaGreatDoorMsgTextG11
import Derived.Lib.SlBytesConst
namespace Go.Proofs.YtfpenlobnnlnfaaGreatDoor
open Go.RowKit
set_option linter.unusedVariables false

theorem str_digs (x : Int) : (⟨(Lib.decDigits x.toNat).toArray⟩ : ByteArray) = strOfNums (digs x) := by
 unfold digs strOfNums
 rw [List.map_map]
 congr 2
 rw [List.map_congr_left (g := id)]
 ·simp
 ·intro b hb
  simp
set_option maxHeartbeats 8000000 in
set_option maxRecDepth 100000 in
theorem implMsgText_yes {vq va vb vm vp vu : Value} {m : Mg} {w : World} (h : HasM w vq va vb vm vp vu m) (hok : okM m = true) (h8 : BytM m) (ht : Pow10 w) :
  Calls Tryz.prog 7 #[.agg #[.int .i64 m.id, .bool m.reply, .int .i64 m.op, .bool m.auth, .int .i64 m.code, vq, va, vb, vm, vp, vu]] w fun e w' => ∃ v', e = .returned v' ∧ Own w.heap.size 5 w' v' (msgT m) ∧ Below w.heap.size w w' := by
 have hmay : mayM m = true := by unfold okM at hok; simp only [Bool.and_eq_true] at hok; exact hok.1
 obtain ⟨_, hc, hq1, hqn, _, _, ⟨ha12, hb12, hm12, _⟩, hoa, hob, hom, _⟩ := mayM_parts hmay
 obtain ⟨xq, yq, rfl, _, zq⟩ := h.qs.form
 obtain ⟨xa, ya, rfl, _, za⟩ := h.ans.form
 obtain ⟨xb, yb, rfl, _, zb⟩ := h.aus.form
 obtain ⟨xm, ym, rfl, _, zm⟩ := h.more.form
 obtain ⟨xp, yp, rfl, _, zp⟩ := h.pres.form
 obtain ⟨xu, yu, rfl, _, zu⟩ := h.ups.form
 obtain ⟨rp, hrp⟩ : ∃ b, m.reply = b := ⟨_, rfl⟩
 have CM0 := fun (w : World) (hh : HasM w (.slice xq m.qs.length yq) (.slice xa m.ans.length ya) (.slice xb m.aus.length yb) (.slice xm m.more.length ym) (.slice xp m.pres.length yp) (.slice xu m.ups.length yu) m) => implMsgOk_has hh
 rw [hok, hrp] at CM0
 rw [hrp]
 have HKT : Hid (kindT m = kindB rp) := UC (by unfold kindT kindB; rw [hrp])
 have b0 := UI (w := w) (.cells #[.int .i64 m.id, .bool rp, .int .i64 m.op, .bool m.auth, .int .i64 m.code, .slice xq m.qs.length yq, .slice xa m.ans.length ya, .slice xb m.aus.length yb, .slice xm m.more.length ym, .slice xp m.pres.length yp, .slice xu m.ups.length yu] 34)
 have KB := UC (heap_alloc_new w (.cells #[.int .i64 m.id, .bool rp, .int .i64 m.op, .bool m.auth, .int .i64 m.code, .slice xq m.qs.length yq, .slice xa m.ans.length ya, .slice xb m.aus.length yb, .slice xm m.more.length ym, .slice xp m.pres.length yp, .slice xu m.ups.length yu] 34))
 have hq0 : 0 < m.qs.length := by omega
 obtain ⟨qb, qo, qvs, rfl, hqb, hqr, qv, rfl, hqL⟩ := (h.below b0).qs.here (k := 0) hq0
 obtain ⟨qna, qnc, rfl, _⟩ := hqL.form
 have hqn' : nameOk (m.qs.getD 0 queZ).name = true := hqn
 rw [Nat.zero_mul, Nat.add_zero] at hqr
 have HQC := UC (range2 hqr).1
 have HQL := UC hqL
 unfold msgT headT
 generalize m.qs.getD 0 queZ = q at *
 have CM := UC (CM0 _ (h.below b0))
 clear CM0 hrp
 have HT := UC (ht.below b0)
 have PIT := UC (show ∀ w1 : World, Calls Tryz.prog 25 #[.int .i64 m.code] w1 fun e w' => e = .returned (.string (strOfNums (digs m.code))) ∧ w1 = w' from fun w1 => by
  have h1 := Tryz.strconv_Itoa_small m.code.toNat (by omega) w1
  rw [show ((m.code.toNat : Nat) : Int) = m.code by omega] at h1
  exact h1.mono fun e w' ⟨he, hw⟩ => ⟨by rw [he, str_digs], hw.symm⟩)
 have PN := UC (show ∀ w1 : World, HasL w1 (.slice qna q.name.length qnc) q.name → Calls Tryz.prog 26 #[.agg #[.slice qna q.name.length qnc]] w1 fun e w' => ∃ v', e = .returned v' ∧ Own w1.heap.size 5 w' v' (nameText q.name) ∧ Below w1.heap.size w1 w' from fun w1 hh => implNameText_has hh)
 have lN := nameText_length q.name
 have lC := digs_ten hc.1 (show m.code ≤ 4294967295 by omega)
 have lK := kindT_length m
 have YN := UC (nameText_byt q.name)
 have YC := UC (digs_byt m.code)
 have YK := UC (kindT_byt m)
 have HA := UC (show HasRs (w.alloc (.cells #[.int .i64 m.id, .bool rp, .int .i64 m.op, .bool m.auth, .int .i64 m.code, .slice (some ⟨qb, qo, none⟩) m.qs.length yq, .slice xa m.ans.length ya, .slice xb m.aus.length yb, .slice xm m.more.length ym, .slice xp m.pres.length yp, .slice xu m.ups.length yu] 34)) (.slice xa m.ans.length ya) m.ans from h.ans.below b0)
 have HBB := UC (show HasRs (w.alloc (.cells #[.int .i64 m.id, .bool rp, .int .i64 m.op, .bool m.auth, .int .i64 m.code, .slice (some ⟨qb, qo, none⟩) m.qs.length yq, .slice xa m.ans.length ya, .slice xb m.aus.length yb, .slice xm m.more.length ym, .slice xp m.pres.length yp, .slice xu m.ups.length yu] 34)) (.slice xb m.aus.length yb) m.aus from h.aus.below b0)
 have HMM := UC (show HasRs (w.alloc (.cells #[.int .i64 m.id, .bool rp, .int .i64 m.op, .bool m.auth, .int .i64 m.code, .slice (some ⟨qb, qo, none⟩) m.qs.length yq, .slice xa m.ans.length ya, .slice xb m.aus.length yb, .slice xm m.more.length ym, .slice xp m.pres.length yp, .slice xu m.ups.length yu] 34)) (.slice xm m.more.length ym) m.more from h.more.below b0)
 have H8 := UC h8
 have HOA := UC hoa
 have HOB := UC hob
 have HOM := UC hom
 generalize nameText q.name = NT at *
 generalize digs m.code = CT at *
 generalize kindT m = KT at *
 have lA : (secT (KT ++ [32] ++ CT ++ [32] ++ NT ++ [10]) ansW m.ans m.ans.length).length ≤ 10000 := by
  have := secT_length (KT ++ [32] ++ CT ++ [32] ++ NT ++ [10]) (w := ansW) m.ans (by decide) m.ans.length
  simp only [List.length_append, List.length_cons, List.length_nil] at this
  omega
 have lH : (KT ++ [32] ++ CT ++ [32] ++ NT ++ [10]).length ≤ 300 := by
  simp only [List.length_append, List.length_cons, List.length_nil]
  omega
 have lB : (secT (secT (KT ++ [32] ++ CT ++ [32] ++ NT ++ [10]) ansW m.ans m.ans.length) autW m.aus m.aus.length).length ≤ 20000 := by
  have := secT_length (secT (KT ++ [32] ++ CT ++ [32] ++ NT ++ [10]) ansW m.ans m.ans.length) (w := autW) m.aus (by decide) m.aus.length
  omega
 have HX := UC (show KT ++ [32] ++ CT ++ [32] ++ NT ++ [10] = (KT ++ [32] ++ CT ++ [32] ++ NT) ++ [10] from rfl)
 clear h hok hmay hc hqn hqn' hqr hqL hoa hob hom h8 ht hq1
 go_enter Tryz.func7, Tryz.ntmps7
 go_wp2_with fail
 generalize w.alloc (.cells #[.int .i64 m.id, .bool rp, .int .i64 m.op, .bool m.auth, .int .i64 m.code, .slice (some ⟨qb, qo, none⟩) m.qs.length yq, .slice xa m.ans.length ya, .slice xb m.aus.length yb, .slice xm m.more.length ym, .slice xp m.pres.length yp, .slice xu m.ups.length yu] 34) = W at *
 refine (UB CM).mono ?_
 rintro e w1 ⟨rfl, b1⟩
 have KBK := UC (fun (w' : World) (hbw : Below W.heap.size W w') => UE hbw (UB KB))
 replace KB := UC (UE b1 (UB KB))
 replace HQC := UC ((b1.cell (p := ⟨qb, qo, none⟩) hqb).trans (UB HQC))
 replace HQL := UC ((UB HQL).below b1)
 have hqb1 : qb < w1.heap.size := Nat.lt_of_lt_of_le hqb b1.size
 have bb := b1
 clear CM b1
 cases rp
 all_goals
  obtain ⟨d0, d1, d2, d3, d4, d5, d6, d7, d8, d9, d10⟩ := cells11 (UB KB)
  go_wp2_with fail
  clear d0 d1 d2 d3 d4 d5 d6 d7 d8 d9 d10
  first | rw [← kt_true (UB HKT)] | rw [← kt_false (UB HKT)]
  have bd := UX (w := w1)
  have KB0 := KB
  replace KB := UC (UE bd (UB KB))
  replace HQC := UC ((bd.cell (p := ⟨qb, qo, none⟩) hqb1).trans (UB HQC))
  replace HQL := UC ((UB HQL).below bd)
  replace bb := UG bb bd
  clear bd KB0
  refine startC [0, 1, 2, 4, 5, 6, 7, 8, 3, 9, 10, 11, 12, 13] (by kernel_rfl) ⟨by kernel_rfl, by kernel_rfl, by kernel_rfl, by kernel_rfl⟩ 8 [(2, fun w' => w'.cell? ⟨w.heap.size, 4, none⟩ = some (.int .i64 m.code)), (5, fun w' => w'.cell? ⟨w.heap.size, 5, none⟩ = some (.slice (some ⟨qb, qo, none⟩) m.qs.length yq)), (8, fun w' => w'.cell? ⟨qb, qo, none⟩ = some (.slice qna q.name.length qnc))] (fun hA => ?_)
  replace hA := UC hA
  repeat ((first | (refine VN ?_ (UB hA) rfl rfl rfl (by rfl) (fun _ _ _ h => h) ?_ ?_; rotate_left; · (intro w; go_simp <;> with_reducible rfl)) | refine VM (UB hA) rfl rfl (by rfl) (fun _ _ _ h => h) ?_); go_simp)
  refine takeC ?_ (UB hA) rfl rfl rfl (by rfl) (fun _ _ _ h => h) (.head _) (cells11 (UB KB)).2.2.2.2.1 ?_ ?_; rotate_left; (· (intro w hSw; (try dsimp only at hSw); go_simp <;> with_reducible rfl)); go_simp
  repeat ((first | (refine VN ?_ (UB hA) rfl rfl rfl (by rfl) (fun _ _ _ h => h) ?_ ?_; rotate_left; · (intro w; go_simp <;> with_reducible rfl)) | refine VM (UB hA) rfl rfl (by rfl) (fun _ _ _ h => h) ?_); go_simp)
  refine takeC ?_ (UB hA) rfl rfl rfl (by rfl) (fun _ _ _ h => h) (.tail _ (.head _)) (cells11 (UB KB)).2.2.2.2.2.1 ?_ ?_; rotate_left; (· (intro w hSw; (try dsimp only at hSw); go_simp <;> with_reducible rfl)); go_simp
  repeat ((first | (refine VN ?_ (UB hA) rfl rfl rfl (by rfl) (fun _ _ _ h => h) ?_ ?_; rotate_left; · (intro w; go_simp <;> with_reducible rfl)) | refine VM (UB hA) rfl rfl (by rfl) (fun _ _ _ h => h) ?_); go_simp)
  refine takeC ?_ (UB hA) rfl rfl rfl (by rfl) (fun _ _ _ h => h) (.tail _ (.tail _ (.head _))) (UB HQC) ?_ ?_; rotate_left; (· (intro w hSw; (try dsimp only at hSw); go_simp <;> with_reducible rfl)); go_simp
  repeat ((first | (refine VN ?_ (UB hA) rfl rfl rfl (by rfl) (fun _ _ _ h => h) ?_ ?_; rotate_left; · (intro w; go_simp <;> with_reducible rfl)) | refine VM (UB hA) rfl rfl (by rfl) (fun _ _ _ h => h) ?_); go_simp)
  refine runC (UB hA) rfl rfl (by kernel_rfl) (by kernel_rfl) (fun K hK => ?_)
  have HK := UC hK
  clear hK
  go_simp
  refine (UB PIT _).mono ?_
  rintro e wq ⟨rfl, rfl⟩
  refine (UB HK).out _ _ (VB (by kernel_rfl) (keepC_yes (cells11 (UB KB)).2.2.2.2.2.1 (keepC_yes (UB HQC) VL))) ?_
  clear HK K
  go_simp
  repeat ((first | (refine VN ?_ (UB hA) rfl rfl rfl (by rfl) (fun _ _ _ h => h) ?_ ?_; rotate_left; · (intro w; go_simp <;> with_reducible rfl)) | refine VM (UB hA) rfl rfl (by rfl) (fun _ _ _ h => h) ?_); go_simp)
  refine runC (UB hA) rfl rfl (by kernel_rfl) (by kernel_rfl) (fun K hK => ?_)
  have HK := UC hK
  clear hK
  go_simp
  refine (UB PN _ (UB HQL)).mono ?_
  rintro e w4 ⟨v4, rfl, o4, b4⟩
  have kc := conv_has o4.has
  have bb4 := UG bb b4
  clear b4 o4
  refine (UB HK).out _ _ (VB (by kernel_rfl) (VB (by kernel_rfl) (VB (by kernel_rfl) VL))) ?_
  clear HK K
  go_simp
  repeat ((first | (refine VN ?_ (UB hA) rfl rfl rfl (by rfl) (fun _ _ _ h => h) ?_ ?_; rotate_left; · (intro w; go_simp <;> with_reducible rfl)) | refine VM (UB hA) rfl rfl (by rfl) (fun _ _ _ h => h) ?_); go_simp)
  refine runC (UB hA) rfl rfl (by kernel_rfl) (by kernel_rfl) (fun K hK => ?_)
  have HK := UC hK
  clear hK
  go_simp
  refine (UB HK).out _ _ (VB (by kernel_rfl) (VB (by kernel_rfl) (VB (by kernel_rfl) VL))) ?_
  clear HK K
  go_simp
  repeat ((first | (refine VN ?_ (UB hA) rfl rfl rfl (by rfl) (fun _ _ _ h => h) ?_ ?_; rotate_left; · (intro w; go_simp <;> with_reducible rfl)) | refine VM (UB hA) rfl rfl (by rfl) (fun _ _ _ h => h) ?_); go_simp)
  have ba := UI (w := w4) (.cells #[.string (strOfNums KT), .string (strOfNums CT), .string (strOfNums NT)] 9)
  have k5 := heap_alloc_new w4 (.cells #[.string (strOfNums KT), .string (strOfNums CT), .string (strOfNums NT)] 9)
  have bb5 := UG bb4 ba
  refine runC (UB hA) rfl rfl (by kernel_rfl) (by kernel_rfl) (fun K hK => ?_)
  have HK := UC hK
  clear hK
  go_simp
  refine (UB HK).out _ _ (VB (by kernel_rfl) (VB (by kernel_rfl) (VB (by kernel_rfl) VL))) ?_
  clear HK K
  go_simp
  repeat ((first | (refine VN ?_ (UB hA) rfl rfl rfl (by rfl) (fun _ _ _ h => h) ?_ ?_; rotate_left; · (intro w; go_simp <;> with_reducible rfl)) | refine VM (UB hA) rfl rfl (by rfl) (fun _ _ _ h => h) ?_); go_simp)
  have HL := UC (addLine3 (B := W.heap.size) (v := .slice none 0 0) (l := []) (World.ownsRow_nil _ _ _ _) bb5.size k5 (by omega) (by omega) (by omega) (UB YK) (UB YC) (UB YN) (by simp))
  generalize w4.alloc (.cells #[.string (strOfNums KT), .string (strOfNums CT), .string (strOfNums NT)] 9) = w5 at *
  clear k5 ba kc
  refine runC (UB hA) rfl rfl (by kernel_rfl) (by kernel_rfl) (fun K hK => ?_)
  have HK := UC hK
  clear hK
  go_simp
  refine (UB HL).mono ?_
  rintro e w6 ⟨v6, rfl, o6, b6⟩
  have bb6 := bb5.trans b6
  rw [List.nil_append] at o6
  have O6 := UC o6
  clear b6 o6 HL
  refine (UB HK).out _ _ (VB (by kernel_rfl) (VB (by kernel_rfl) (VB (by kernel_rfl) VL))) ?_
  clear HK K
  go_simp
  repeat ((first | (refine VN ?_ (UB hA) rfl rfl rfl (by rfl) (fun _ _ _ h => h) ?_ ?_; rotate_left; · (intro w; go_simp <;> with_reducible rfl)) | refine VM (UB hA) rfl rfl (by rfl) (fun _ _ _ h => h) ?_); go_simp)
  refine doneC (UB hA) rfl ?_
  clear hA
  have hK6 := cells11 ((UB KBK) _ bb6)
  obtain ⟨d0, d1, d2, d3, d4, d5, d6, d7, d8, d9, d10⟩ := hK6
  have HL := UC (addRecs_own (ws := ansW) (UB HA) (bb6) (UB O6) (by omega) (by omega) (UB HOA) ((UB H8).1) (by decide) (byt_lit (by decide)) (UB HT))
  go_wp2_with fail
  clear d0 d1 d2 d3 d4 d5 d6 d7 d8 d9 d10
  refine (UB HL).mono ?_
  rintro e w7 ⟨v7, rfl, o7, bb7⟩
  have O7 := UC o7
  clear o7 HL
  have hK7 := cells11 ((UB KBK) _ bb7)
  obtain ⟨d0, d1, d2, d3, d4, d5, d6, d7, d8, d9, d10⟩ := hK7
  have HL := UC (addRecs_own (ws := autW) (UB HBB) (bb7) (UB O7) (by omega) (by omega) (UB HOB) ((UB H8).2.1) (by decide) (byt_lit (by decide)) (UB HT))
  go_wp2_with fail
  clear d0 d1 d2 d3 d4 d5 d6 d7 d8 d9 d10
  refine (UB HL).mono ?_
  rintro e w8 ⟨v8, rfl, o8, bb8⟩
  have O8 := UC o8
  clear o8 HL
  have hK8 := cells11 ((UB KBK) _ bb8)
  obtain ⟨d0, d1, d2, d3, d4, d5, d6, d7, d8, d9, d10⟩ := hK8
  have HL := UC (addRecs_own (ws := morW) (UB HMM) (bb8) (UB O8) (by omega) (by omega) (UB HOM) ((UB H8).2.2) (by decide) (byt_lit (by decide)) (UB HT))
  go_wp2_with fail
  clear d0 d1 d2 d3 d4 d5 d6 d7 d8 d9 d10
  refine (UB HL).mono ?_
  rintro e w9 ⟨v9, rfl, o9, bb9⟩
  have O9 := UC o9
  clear o9 HL
  go_wp2_with fail
  go_ret
  exact ⟨_, rfl, (UB O9).mono b0.size, UG b0 bb9⟩
set_option maxHeartbeats 1000000 in
set_option maxRecDepth 100000 in
theorem implMsgText_no {vq va vb vm vp vu : Value} {m : Mg} {w : World} (h : HasM w vq va vb vm vp vu m) (hok : okM m = false) :
  Calls Tryz.prog 7 #[.agg #[.int .i64 m.id, .bool m.reply, .int .i64 m.op, .bool m.auth, .int .i64 m.code, vq, va, vb, vm, vp, vu]] w fun e w' => ∃ v', e = .returned v' ∧ Own w.heap.size 5 w' v' [] ∧ Below w.heap.size w w' := by
 obtain ⟨xq, yq, rfl, _, zq⟩ := h.qs.form
 obtain ⟨xa, ya, rfl, _, za⟩ := h.ans.form
 obtain ⟨xb, yb, rfl, _, zb⟩ := h.aus.form
 obtain ⟨xm, ym, rfl, _, zm⟩ := h.more.form
 obtain ⟨xp, yp, rfl, _, zp⟩ := h.pres.form
 obtain ⟨xu, yu, rfl, _, zu⟩ := h.ups.form
 have CM := implMsgOk_has (h.below (UI (w := w) (.cells #[.int .i64 m.id, .bool m.reply, .int .i64 m.op, .bool m.auth, .int .i64 m.code, .slice xq m.qs.length yq, .slice xa m.ans.length ya, .slice xb m.aus.length yb, .slice xm m.more.length ym, .slice xp m.pres.length yp, .slice xu m.ups.length yu] 34)))
 rw [hok] at CM
 have b0 := UI (w := w) (.cells #[.int .i64 m.id, .bool m.reply, .int .i64 m.op, .bool m.auth, .int .i64 m.code, .slice xq m.qs.length yq, .slice xa m.ans.length ya, .slice xb m.aus.length yb, .slice xm m.more.length ym, .slice xp m.pres.length yp, .slice xu m.ups.length yu] 34)
 replace CM := UC CM
 clear h hok
 go_enter Tryz.func7, Tryz.ntmps7
 go_wp2_with fail
 generalize w.alloc (.cells #[.int .i64 m.id, .bool m.reply, .int .i64 m.op, .bool m.auth, .int .i64 m.code, .slice xq m.qs.length yq, .slice xa m.ans.length ya, .slice xb m.aus.length yb, .slice xm m.more.length ym, .slice xp m.pres.length yp, .slice xu m.ups.length yu] 34) = W at *
 refine (UB CM).mono ?_
 rintro e w1 ⟨rfl, b1⟩
 go_wp2_with fail
 go_ret
 exact ⟨_, rfl, World.ownsRow_nil _ _ _ _, UG b0 b1⟩
theorem implMsgText_has {vq va vb vm vp vu : Value} {m : Mg} {w : World} (h : HasM w vq va vb vm vp vu m) (h8 : BytM m) (ht : Pow10 w) :
  Calls Tryz.prog 7 #[.agg #[.int .i64 m.id, .bool m.reply, .int .i64 m.op, .bool m.auth, .int .i64 m.code, vq, va, vb, vm, vp, vu]] w fun e w' => ∃ v', e = .returned v' ∧ Own w.heap.size 5 w' v' (msgText m) ∧ Below w.heap.size w w' := by
 cases hok : okM m with
 | false => rw [msgText_no hok]; exact implMsgText_no h hok
 | true => rw [msgText_yes hok]; exact implMsgText_yes h hok h8 ht
end Go.Proofs.YtfpenlobnnlnfaaGreatDoor

namespace Go.Proofs.YtfpenlobnnlnfaaGreatDoor
open Go.RowKit

theorem own_byte1 (w : World) (B : Nat) (e : TypeId) (x : Int) (hB : B ≤ w.heap.size) : Own B e (w.alloc (.cells #[.int .u8 x] e)) (.slice (some ⟨w.heap.size, 0, none⟩) 1 1) [x] := own_lit w B e [x] hB (by simp [maxLen])
end Go.Proofs.YtfpenlobnnlnfaaGreatDoor

namespace Go.Proofs.YtfpenlobnnlnfaaGreatDoor
open Go.RowKit
set_option linter.unusedVariables false
set_option maxHeartbeats 1000000
set_option maxRecDepth 100000


theorem l1digits_lt (x : Int) (w : World) (h0 : 0 ≤ x) (h1 : x < 10) :
  Calls Tryz.prog 17 #[.int .i64 x] w fun e w' => ∃ v, e = .returned v ∧ Own w.heap.size 5 w' v (digs x) ∧ Below w.heap.size w w' := by
 rw [digs_lt x h0 h1]
 go_enter Tryz.func17, Tryz.ntmps17
 go_wp2
 go_ret
 exact ⟨_, rfl, own_byte1 w _ _ _ (Nat.le_refl _), (Below.refl _ _).alloc (Nat.le_refl _) _⟩

theorem l1digits_ge (x : Int) (w : World) (h0 : 10 ≤ x) (h1 : x ≤ 255)
  (hrec : Hid (∀ w : World, Calls Tryz.prog 17 #[.int .i64 (x / 10)] w fun e w' => ∃ v, e = .returned v ∧ Own w.heap.size 5 w' v (digs (x / 10)) ∧ Below w.heap.size w w')) :
  Calls Tryz.prog 17 #[.int .i64 x] w fun e w' => ∃ v, e = .returned v ∧ Own w.heap.size 5 w' v (digs x) ∧ Below w.heap.size w w' := by
 have hd := digs_length (x / 10) (by omega) (by omega)
 rw [digs_ge x h0]
 generalize hD : digs (x / 10) = D at *
 have HD := UC hD
 clear hD
 go_enter Tryz.func17, Tryz.ntmps17
 go_wp2_with fail
 refine (UB hrec _).mono ?_
 rintro e w1 ⟨v1, rfl, o1, b1⟩
 have hsz := b1.size
 go_wp2_with (at_builtin; refine append_bytes rfl _ _ 28 5 rfl Tryz.underlying28 VJ w.heap.size v1 _ D [48 + x % 10] rfl rfl (o1.alloc _) (own_byte1 w1 0 5 _ (Nat.zero_le _)).reads (by simp; omega) (by simp; omega) ?_)
 intro v' w2 hown hgrow
 go_wp2
 go_ret
 exact ⟨v', rfl, hown, (b1.alloc hsz _).grown hgrow (by simp; omega) (fun k hk => (o1.lt k hk).1)⟩

theorem l1digits_any (x : Int) (w : World) (h0 : 0 ≤ x) (h1 : x ≤ 255) :
  Calls Tryz.prog 17 #[.int .i64 x] w fun e w' => ∃ v, e = .returned v ∧ Own w.heap.size 5 w' v (digs x) ∧ Below w.heap.size w w' := by
 by_cases a : x < 10
 ·exact l1digits_lt x w h0 a
 ·refine l1digits_ge x w (by omega) h1 (UC fun w => ?_)
  by_cases b : x / 10 < 10
  ·exact l1digits_lt _ w (by omega) b
  ·exact l1digits_ge _ w (by omega) (by omega) (UC fun w => l1digits_lt _ w (by omega) (by omega))

theorem l1dotted_any (n : Int) (w : World) (h0 : 0 ≤ n) (h1 : n ≤ 4294967295) :
  Calls Tryz.prog 65 #[.int .i64 n] w fun e w' => ∃ v, e = .returned v ∧ Own w.heap.size 5 w' v (sdot n 4) ∧ Below w.heap.size w w' := by
 go_enter Tryz.func65, Tryz.ntmps65
 go_wp2
 go_loopw [3, 4] (fun b i wr => ∃ j : Nat, j ≤ 4 ∧ i = .int .i64 (3 - j) ∧ Own w.heap.size 5 wr b (sdot n j) ∧ Below w.heap.size w wr) (fun _ i _ => (intOf i + 1).toNat)
 case atStart => exact ⟨0, by omega, rfl, World.ownsRow_nil _ _ _ _, Below.refl _ _⟩
 case round =>
  obtain ⟨j, hj, rfl, ho, hb⟩ := hrel
  have hsd := UC (sdot_length n h0 h1 j)
  have hsz := hb.size
  match j, hj with
  | 0, _ =>
   rw [show ((3 : Int) - ((0 : Nat) : Int)) = 3 from rfl]
   have hL := UB hsd
   have hp : bits .and .i64 (n / 16777216) 255 = part n 0 := by rw [and_255 _ (by omega) (by omega)]; simp [part, parts]; omega
   have HPT := UC hp
   clear hp
   have hs1 : sdot n (0 + 1) = sdot n 0 ++ digs (part n 0) ++ [46] := by simp [sdot]
   have HS1 := UC hs1
   clear hs1
   have hpb := part_bd n 0 h0 h1
   have hdl := digs_length _ hpb.1 hpb.2
   generalize hse : sdot n 0 = S at *
   have HSE := UC hse
   clear hse
   generalize hpe : part n 0 = p at *
   have HPE := UC hpe
   clear hpe
   have HDL := UC hdl
   clear hdl
   go_wp2_with fail
   rw [UB HPT]
   refine (l1digits_any p _ hpb.1 hpb.2).mono ?_
   rintro e w1 ⟨v1, rfl, o1, b1⟩
   have c1 := (ho.below b1)
   have d1 := hb.trans (b1.mono hsz)
   have z1 := d1.size
   go_wp2_with (at_builtin; refine append_bytes rfl _ _ 28 5 rfl Tryz.underlying28 VJ w.heap.size u3 v1 S (digs p) rfl rfl c1 o1.reads (by have := UB HDL; omega) z1 ?_)
   intro v2 w2 o2 g2
   have b2 : Below w.heap.size w w2 := d1.grown g2 z1 (fun k hk => (c1.lt k hk).1)
   clear g2
   have z2 := b2.size
   go_wp2_with (at_builtin; refine append_bytes rfl _ _ 28 5 rfl Tryz.underlying28 VJ w.heap.size v2 _ (S ++ digs p) [46] rfl rfl (o2.alloc _) (own_byte1 w2 0 5 _ (Nat.zero_le _)).reads (by have := UB HDL; simp; omega) (by simp; omega) ?_)
   intro v3 w3 o3 g3
   have b3 : Below w.heap.size w w3 := (b2.alloc z2 _).grown g3 (by simp; omega) (fun k hk => (o2.lt k hk).1)
   clear g3
   go_wp2
   refine ⟨⟨0 + 1, by omega, rfl, ?_, b3⟩, by simp [intOf]⟩
   rw [UB HS1, List.append_assoc]; exact o3
  | 1, _ =>
   rw [show ((3 : Int) - ((1 : Nat) : Int)) = 2 from rfl]
   have hL := UB hsd
   have hp : bits .and .i64 (n / 65536) 255 = part n 1 := by rw [and_255 _ (by omega) (by omega)]; simp [part, parts]
   have HPT := UC hp
   clear hp
   have hs1 : sdot n (1 + 1) = sdot n 1 ++ digs (part n 1) ++ [46] := by simp [sdot]
   have HS1 := UC hs1
   clear hs1
   have hpb := part_bd n 1 h0 h1
   have hdl := digs_length _ hpb.1 hpb.2
   generalize hse : sdot n 1 = S at *
   have HSE := UC hse
   clear hse
   generalize hpe : part n 1 = p at *
   have HPE := UC hpe
   clear hpe
   have HDL := UC hdl
   clear hdl
   go_wp2_with fail
   rw [UB HPT]
   refine (l1digits_any p _ hpb.1 hpb.2).mono ?_
   rintro e w1 ⟨v1, rfl, o1, b1⟩
   have c1 := (ho.below b1)
   have d1 := hb.trans (b1.mono hsz)
   have z1 := d1.size
   go_wp2_with (at_builtin; refine append_bytes rfl _ _ 28 5 rfl Tryz.underlying28 VJ w.heap.size u3 v1 S (digs p) rfl rfl c1 o1.reads (by have := UB HDL; omega) z1 ?_)
   intro v2 w2 o2 g2
   have b2 : Below w.heap.size w w2 := d1.grown g2 z1 (fun k hk => (c1.lt k hk).1)
   clear g2
   have z2 := b2.size
   go_wp2_with (at_builtin; refine append_bytes rfl _ _ 28 5 rfl Tryz.underlying28 VJ w.heap.size v2 _ (S ++ digs p) [46] rfl rfl (o2.alloc _) (own_byte1 w2 0 5 _ (Nat.zero_le _)).reads (by have := UB HDL; simp; omega) (by simp; omega) ?_)
   intro v3 w3 o3 g3
   have b3 : Below w.heap.size w w3 := (b2.alloc z2 _).grown g3 (by simp; omega) (fun k hk => (o2.lt k hk).1)
   clear g3
   go_wp2
   refine ⟨⟨1 + 1, by omega, rfl, ?_, b3⟩, by simp [intOf]⟩
   rw [UB HS1, List.append_assoc]; exact o3
  | 2, _ =>
   rw [show ((3 : Int) - ((2 : Nat) : Int)) = 1 from rfl]
   have hL := UB hsd
   have hp : bits .and .i64 (n / 256) 255 = part n 2 := by rw [and_255 _ (by omega) (by omega)]; simp [part, parts]
   have HPT := UC hp
   clear hp
   have hs1 : sdot n (2 + 1) = sdot n 2 ++ digs (part n 2) ++ [46] := by simp [sdot]
   have HS1 := UC hs1
   clear hs1
   have hpb := part_bd n 2 h0 h1
   have hdl := digs_length _ hpb.1 hpb.2
   generalize hse : sdot n 2 = S at *
   have HSE := UC hse
   clear hse
   generalize hpe : part n 2 = p at *
   have HPE := UC hpe
   clear hpe
   have HDL := UC hdl
   clear hdl
   go_wp2_with fail
   rw [UB HPT]
   refine (l1digits_any p _ hpb.1 hpb.2).mono ?_
   rintro e w1 ⟨v1, rfl, o1, b1⟩
   have c1 := (ho.below b1)
   have d1 := hb.trans (b1.mono hsz)
   have z1 := d1.size
   go_wp2_with (at_builtin; refine append_bytes rfl _ _ 28 5 rfl Tryz.underlying28 VJ w.heap.size u3 v1 S (digs p) rfl rfl c1 o1.reads (by have := UB HDL; omega) z1 ?_)
   intro v2 w2 o2 g2
   have b2 : Below w.heap.size w w2 := d1.grown g2 z1 (fun k hk => (c1.lt k hk).1)
   clear g2
   have z2 := b2.size
   go_wp2_with (at_builtin; refine append_bytes rfl _ _ 28 5 rfl Tryz.underlying28 VJ w.heap.size v2 _ (S ++ digs p) [46] rfl rfl (o2.alloc _) (own_byte1 w2 0 5 _ (Nat.zero_le _)).reads (by have := UB HDL; simp; omega) (by simp; omega) ?_)
   intro v3 w3 o3 g3
   have b3 : Below w.heap.size w w3 := (b2.alloc z2 _).grown g3 (by simp; omega) (fun k hk => (o2.lt k hk).1)
   clear g3
   go_wp2
   refine ⟨⟨2 + 1, by omega, rfl, ?_, b3⟩, by simp [intOf]⟩
   rw [UB HS1, List.append_assoc]; exact o3
  | 3, _ =>
   rw [show ((3 : Int) - ((3 : Nat) : Int)) = 0 from rfl]
   have hL := UB hsd
   have hp : bits .and .i64 (n) 255 = part n 3 := by rw [and_255 _ (by omega) (by omega)]; simp [part, parts]
   have HPT := UC hp
   clear hp
   have hs1 : sdot n (3 + 1) = sdot n 3 ++ digs (part n 3) ++ [] := by simp [sdot]
   have HS1 := UC hs1
   clear hs1
   have hpb := part_bd n 3 h0 h1
   have hdl := digs_length _ hpb.1 hpb.2
   generalize hse : sdot n 3 = S at *
   have HSE := UC hse
   clear hse
   generalize hpe : part n 3 = p at *
   have HPE := UC hpe
   clear hpe
   have HDL := UC hdl
   clear hdl
   go_wp2_with fail
   rw [UB HPT]
   refine (l1digits_any p _ hpb.1 hpb.2).mono ?_
   rintro e w1 ⟨v1, rfl, o1, b1⟩
   have c1 := (ho.below b1)
   have d1 := hb.trans (b1.mono hsz)
   have z1 := d1.size
   go_wp2_with (at_builtin; refine append_bytes rfl _ _ 28 5 rfl Tryz.underlying28 VJ w.heap.size u3 v1 S (digs p) rfl rfl c1 o1.reads (by have := UB HDL; omega) z1 ?_)
   intro v2 w2 o2 g2
   have b2 : Below w.heap.size w w2 := d1.grown g2 z1 (fun k hk => (c1.lt k hk).1)
   clear g2
   have z2 := b2.size
   go_wp2
   refine ⟨⟨3 + 1, by omega, rfl, ?_, b2⟩, by simp [intOf]⟩
   rw [UB HS1, List.append_nil]; exact o2
  | 4, _ =>
   rw [show ((3 : Int) - ((4 : Nat) : Int)) = -1 from rfl]
   go_wp2
   go_ret
   exact ⟨_, rfl, ho, hb⟩
set_option maxHeartbeats 400000 in
set_option maxRecDepth 100000 in
theorem l1digits_ge2 (x : Int) (w : World) (h0 : 10 ≤ x) (h1 : x ≤ 4294967295)
  (hrec : Hid (∀ w : World, Calls Tryz.prog 17 #[.int .i64 (x / 10)] w fun e w' => ∃ v, e = .returned v ∧ Own w.heap.size 5 w' v (digs (x / 10)) ∧ Below w.heap.size w w')) :
  Calls Tryz.prog 17 #[.int .i64 x] w fun e w' => ∃ v, e = .returned v ∧ Own w.heap.size 5 w' v (digs x) ∧ Below w.heap.size w w' := by
 have hd := digs_ten (x := x / 10) (by omega) (by omega)
 rw [digs_ge x h0]
 generalize hD : digs (x / 10) = D at *
 have HD := UC hD
 clear hD
 go_enter Tryz.func17, Tryz.ntmps17
 go_wp2_with fail
 refine (UB hrec _).mono ?_
 rintro e w1 ⟨v1, rfl, o1, b1⟩
 have hsz := b1.size
 go_wp2_with (at_builtin; refine append_bytes rfl _ _ 28 5 rfl Tryz.underlying28 VJ w.heap.size v1 _ D [48 + x % 10] rfl rfl (o1.alloc _) (own_byte1 w1 0 5 _ (Nat.zero_le _)).reads (by simp; omega) (by simp; omega) ?_)
 intro v' w2 hown hgrow
 go_wp2
 go_ret
 exact ⟨v', rfl, hown, (b1.alloc hsz _).grown hgrow (by simp; omega) (fun k hk => (o1.lt k hk).1)⟩

theorem l1digits_upto (k : Nat) : ∀ x : Int, 0 ≤ x → x ≤ 4294967295 → x < 10 ^ (k + 1) → ∀ w : World,
  Calls Tryz.prog 17 #[.int .i64 x] w fun e w' => ∃ v, e = .returned v ∧ Own w.heap.size 5 w' v (digs x) ∧ Below w.heap.size w w' := by
 induction k with
 | zero => exact fun x h0 _ h2 w => l1digits_lt x w h0 (by omega)
 | succ k ih =>
  intro x h0 h1 h2 w
  by_cases a : x < 10
  ·exact l1digits_lt x w h0 a
  ·have e : (10 : Int) ^ (k + 1 + 1) = 10 ^ (k + 1) * 10 := Int.pow_succ _ _
   rw [e] at h2
   generalize (10 : Int) ^ (k + 1) = p at *
   exact l1digits_ge2 x w (by omega) h1 (UC fun w => ih (x / 10) (by omega) (by omega) (by omega) w)
theorem l1digits_any2 (x : Int) (w : World) (h0 : 0 ≤ x) (h1 : x ≤ 4294967295) :
  Calls Tryz.prog 17 #[.int .i64 x] w fun e w' => ∃ v, e = .returned v ∧ Own w.heap.size 5 w' v (digs x) ∧ Below w.heap.size w w' := l1digits_upto 9 x h0 h1 (by omega) w
set_option maxHeartbeats 1000000 in
set_option maxRecDepth 100000 in
theorem l2text_some {a : Option Addr} {cap : Nat} {n : List (List Int)} {w : World} (h : HasL w (.slice a n.length cap) n) (hok : nameOk n = true) (hn0 : n.length ≠ 0) :
  Calls Tryz.prog 18 #[.agg #[.slice a n.length cap]] w fun e w' => ∃ v', e = .returned v' ∧ Own w.heap.size 5 w' v' (dots n n.length) ∧ Below w.heap.size w w' := by
 obtain ⟨a', cap', he, hl, hm⟩ := h.form
 simp only [Value.slice.injEq] at he
 obtain ⟨rfl, _, rfl⟩ := he
 unfold maxLen at hm
 have hdl := dots_length n hok
 have h6 := (nameOk_parts hok).1
 have HDS := UC (dots_succ n)
 have HD0 := UC (dots_zero n)
 have HLEN := UC (show ∀ k, k < n.length → (n.getD k []).length ≤ 15 from fun k hk => (labelOk_length ((nameOk_parts hok).2 k hk)).2)
 clear hok
 have hn1 : ((n.length : Int) == 0) = false := by rw [beq_eq_false_iff_ne]; omega
 have HDL := UC hdl
 clear hdl
 generalize dots n = D at *
 have b0 := UI (w := w) (.cells #[.slice a n.length cap] 49)
 have k0 := heap_alloc_new w (.cells #[.slice a n.length cap] 49)
 have h0 := UC (h.below b0)
 have H := UC h
 clear h
 have z0 := VC k0
 generalize hn : n.length = m at *
 have HN := UC hn
 clear hn
 go_enter Tryz.func18, Tryz.ntmps18
 go_wp2
 generalize w.alloc (.cells #[.slice a m cap] 49) = w1 at *
 go_loopw [3, 4] (fun o i wr => ∃ k : Nat, k ≤ m ∧ i = .int .i64 k ∧ Own w1.heap.size 5 wr o (D k) ∧ Below w1.heap.size w1 wr) (fun _ i _ => m - (intOf i).toNat)
 case atStart => exact ⟨0, Nat.zero_le _, rfl, by rw [UB HD0]; exact World.ownsRow_nil _ _ _ _, Below.refl _ _⟩
 case round =>
  obtain ⟨k, hk, rfl, ho, hb⟩ := hrel
  have c1 := US (UE hb k0)
  by_cases hlt : k < m
  ·obtain ⟨b, off, u, rfl, hbl, hc, hu⟩ := ((UB h0).below hb).here (k := k) (by rw [UB HN]; exact hlt)
   have hds := UC (UB HDS k hlt)
   have hlk := UB HLEN k hlt
   have hdk := UB HDL k
   generalize n.getD k [] = lab at *
   have HU := UC hu
   obtain ⟨ua, uc, rfl, _⟩ := hu.form
   clear hu
   have zb := hb.size
   go_wp2_with (at_builtin; refine append_bytes rfl _ _ 28 5 rfl Tryz.underlying28 VJ w1.heap.size _ (.slice ua lab.length uc) (D k) lab rfl rfl ho (UB HU).reads (by omega) zb ?_)
   intro v2 w2 o2 g2
   have z2 := g2.size
   have hb2 : Below w1.heap.size w1 w2 := hb.grown g2 zb (fun q hq => (ho.lt q hq).1)
   clear g2 ho hb c1
   go_wp2_with (at_builtin; refine append_bytes rfl _ _ 28 5 rfl Tryz.underlying28 VJ w1.heap.size v2 _ (D k ++ lab) [46] rfl rfl (o2.alloc _) (own_lit w2 0 5 [46] (Nat.zero_le _) (by simp [maxLen])).reads (by simp; omega) (by simp; omega) ?_)
   intro v3 w3 o3 g3
   have hb3 : Below w1.heap.size w1 w3 := (hb2.alloc hb2.size _).grown g3 (by simp; omega) (fun q hq => (o2.lt q hq).1)
   clear g3 o2 hb2
   go_wp2_with fail
   exact ⟨⟨k + 1, by omega, by go_num, by rw [UB hds, List.append_assoc]; exact o3, hb3⟩, by simp [intOf]; omega⟩
  ·obtain rfl : k = m := by omega
   go_wp2_with fail
   go_ret
   exact ⟨_, rfl, ho.mono (Nat.le_of_lt z0), UG b0 hb⟩
end Go.Proofs.YtfpenlobnnlnfaaGreatDoor
