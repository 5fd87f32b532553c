/-
  Contract of the program's MsgText. Contract of the program's MsgText, whole. Contracts of the specification's l2put and NamePut. Contracts of the specification's Put32.
-/
import Derived.Test.YtbabmdiklefgcaaGreatDoorFnRepliesG34
import Derived.Test.YtbabmdiklefgcaaGreatDoorFnRepliesG30
import Derived.Deep.Cut
import Derived.Test.YtbabmdiklefgcaaGreatDoorFnRepliesG08
import Derived.Test.YtbabmdiklefgcaaGreatDoorFnRepliesG00
import Derived.Deep.RegionHeld3
import Derived.Test.YtbabmdiklefgcaaGreatDoorFnRepliesG01
namespace Go.Proofs.YtbabmdiklefgcaaGreatDoor
open Go.RowKit
set_option linter.unusedVariables false

theorem str_digs (x : Int) : (⟨(Lib.decDigits x.toNat).toArray⟩ : ByteArray) = strOfNums (digs x) := by
 unfold digs strOfNums
 rw [List.map_map]
 congr 2
 rw [List.map_congr_left (g := id)]
 ·simp
 ·intro b hb
  simp
set_option maxHeartbeats 8000000 in
set_option maxRecDepth 100000 in
theorem implMsgText_yes {vq va vb vm vp vu : Value} {m : Mg} {w : World} (h : HasM w vq va vb vm vp vu m) (hok : okM m = true) (h8 : BytM m) (ht : Pow10 w) :
  Calls Tryz.prog 8 #[.agg #[.int .i64 m.id, .bool m.reply, .int .i64 m.op, .bool m.auth, .int .i64 m.code, vq, va, vb, vm, vp, vu]] w fun e w' => ∃ v', e = .returned v' ∧ Own w.heap.size 5 w' v' (msgT m) ∧ Below w.heap.size w w' := by
 have hmay : mayM m = true := by unfold okM at hok; simp only [Bool.and_eq_true] at hok; exact hok.1
 obtain ⟨_, hc, hq1, hqn, _, _, ⟨ha12, hb12, hm12, _⟩, hoa, hob, hom, _⟩ := mayM_parts hmay
 obtain ⟨xq, yq, rfl, _, zq⟩ := h.qs.form
 obtain ⟨xa, ya, rfl, _, za⟩ := h.ans.form
 obtain ⟨xb, yb, rfl, _, zb⟩ := h.aus.form
 obtain ⟨xm, ym, rfl, _, zm⟩ := h.more.form
 obtain ⟨xp, yp, rfl, _, zp⟩ := h.pres.form
 obtain ⟨xu, yu, rfl, _, zu⟩ := h.ups.form
 obtain ⟨rp, hrp⟩ : ∃ b, m.reply = b := ⟨_, rfl⟩
 have CM0 := fun (w : World) (hh : HasM w (.slice xq m.qs.length yq) (.slice xa m.ans.length ya) (.slice xb m.aus.length yb) (.slice xm m.more.length ym) (.slice xp m.pres.length yp) (.slice xu m.ups.length yu) m) => implMsgOk_has hh
 rw [hok, hrp] at CM0
 rw [hrp]
 have HKT : Hid (kindT m = kindB rp) := UC (by unfold kindT kindB; rw [hrp])
 have b0 := UI (w := w) (.cells #[.int .i64 m.id, .bool rp, .int .i64 m.op, .bool m.auth, .int .i64 m.code, .slice xq m.qs.length yq, .slice xa m.ans.length ya, .slice xb m.aus.length yb, .slice xm m.more.length ym, .slice xp m.pres.length yp, .slice xu m.ups.length yu] 27)
 have KB := UC (heap_alloc_new w (.cells #[.int .i64 m.id, .bool rp, .int .i64 m.op, .bool m.auth, .int .i64 m.code, .slice xq m.qs.length yq, .slice xa m.ans.length ya, .slice xb m.aus.length yb, .slice xm m.more.length ym, .slice xp m.pres.length yp, .slice xu m.ups.length yu] 27))
 have hq0 : 0 < m.qs.length := by omega
 obtain ⟨qb, qo, qvs, rfl, hqb, hqr, qv, rfl, hqL⟩ := (h.below b0).qs.here (k := 0) hq0
 obtain ⟨qna, qnc, rfl, _⟩ := hqL.form
 have hqn' : nameOk (m.qs.getD 0 queZ).name = true := hqn
 rw [Nat.zero_mul, Nat.add_zero] at hqr
 have HQC := UC (range2 hqr).1
 have HQL := UC hqL
 unfold msgT headT
 generalize m.qs.getD 0 queZ = q at *
 have CM := UC (CM0 _ (h.below b0))
 clear CM0 hrp
 have HT := UC (ht.below b0)
 have PIT := UC (show ∀ w1 : World, Calls Tryz.prog 23 #[.int .i64 m.code] w1 fun e w' => e = .returned (.string (strOfNums (digs m.code))) ∧ w1 = w' from fun w1 => by
  have h1 := Tryz.strconv_Itoa_small m.code.toNat (by omega) w1
  rw [show ((m.code.toNat : Nat) : Int) = m.code by omega] at h1
  exact h1.mono fun e w' ⟨he, hw⟩ => ⟨by rw [he, str_digs], hw.symm⟩)
 have PN := UC (show ∀ w1 : World, HasL w1 (.slice qna q.name.length qnc) q.name → Calls Tryz.prog 21 #[.agg #[.slice qna q.name.length qnc]] w1 fun e w' => ∃ v', e = .returned v' ∧ Own w1.heap.size 5 w' v' (nameText q.name) ∧ Below w1.heap.size w1 w' from fun w1 hh => implNameText_has hh)
 have lN := nameText_length q.name
 have lC := digs_ten hc.1 (show m.code ≤ 4294967295 by omega)
 have lK := kindT_length m
 have YN := UC (nameText_byt q.name)
 have YC := UC (digs_byt m.code)
 have YK := UC (kindT_byt m)
 have HA := UC (show HasRs (w.alloc (.cells #[.int .i64 m.id, .bool rp, .int .i64 m.op, .bool m.auth, .int .i64 m.code, .slice (some ⟨qb, qo, none⟩) m.qs.length yq, .slice xa m.ans.length ya, .slice xb m.aus.length yb, .slice xm m.more.length ym, .slice xp m.pres.length yp, .slice xu m.ups.length yu] 27)) (.slice xa m.ans.length ya) m.ans from h.ans.below b0)
 have HBB := UC (show HasRs (w.alloc (.cells #[.int .i64 m.id, .bool rp, .int .i64 m.op, .bool m.auth, .int .i64 m.code, .slice (some ⟨qb, qo, none⟩) m.qs.length yq, .slice xa m.ans.length ya, .slice xb m.aus.length yb, .slice xm m.more.length ym, .slice xp m.pres.length yp, .slice xu m.ups.length yu] 27)) (.slice xb m.aus.length yb) m.aus from h.aus.below b0)
 have HMM := UC (show HasRs (w.alloc (.cells #[.int .i64 m.id, .bool rp, .int .i64 m.op, .bool m.auth, .int .i64 m.code, .slice (some ⟨qb, qo, none⟩) m.qs.length yq, .slice xa m.ans.length ya, .slice xb m.aus.length yb, .slice xm m.more.length ym, .slice xp m.pres.length yp, .slice xu m.ups.length yu] 27)) (.slice xm m.more.length ym) m.more from h.more.below b0)
 have H8 := UC h8
 have HOA := UC hoa
 have HOB := UC hob
 have HOM := UC hom
 generalize nameText q.name = NT at *
 generalize digs m.code = CT at *
 generalize kindT m = KT at *
 have lA : (secT (KT ++ [32] ++ CT ++ [32] ++ NT ++ [10]) ansW m.ans m.ans.length).length ≤ 10000 := by
  have := secT_length (KT ++ [32] ++ CT ++ [32] ++ NT ++ [10]) (w := ansW) m.ans (by decide) m.ans.length
  simp only [List.length_append, List.length_cons, List.length_nil] at this
  omega
 have lH : (KT ++ [32] ++ CT ++ [32] ++ NT ++ [10]).length ≤ 300 := by
  simp only [List.length_append, List.length_cons, List.length_nil]
  omega
 have lB : (secT (secT (KT ++ [32] ++ CT ++ [32] ++ NT ++ [10]) ansW m.ans m.ans.length) autW m.aus m.aus.length).length ≤ 20000 := by
  have := secT_length (secT (KT ++ [32] ++ CT ++ [32] ++ NT ++ [10]) ansW m.ans m.ans.length) (w := autW) m.aus (by decide) m.aus.length
  omega
 have HX := UC (show KT ++ [32] ++ CT ++ [32] ++ NT ++ [10] = (KT ++ [32] ++ CT ++ [32] ++ NT) ++ [10] from rfl)
 clear h hok hmay hc hqn hqn' hqr hqL hoa hob hom h8 ht hq1
 go_enter Tryz.func8, Tryz.ntmps8
 go_wp2_with fail
 generalize w.alloc (.cells #[.int .i64 m.id, .bool rp, .int .i64 m.op, .bool m.auth, .int .i64 m.code, .slice (some ⟨qb, qo, none⟩) m.qs.length yq, .slice xa m.ans.length ya, .slice xb m.aus.length yb, .slice xm m.more.length ym, .slice xp m.pres.length yp, .slice xu m.ups.length yu] 27) = W at *
 refine (UB CM).mono ?_
 rintro e w1 ⟨rfl, b1⟩
 have KBK := UC (fun (w' : World) (hbw : Below W.heap.size W w') => UE hbw (UB KB))
 replace KB := UC (UE b1 (UB KB))
 replace HQC := UC ((b1.cell (p := ⟨qb, qo, none⟩) hqb).trans (UB HQC))
 replace HQL := UC ((UB HQL).below b1)
 have hqb1 : qb < w1.heap.size := Nat.lt_of_lt_of_le hqb b1.size
 have bb := b1
 clear CM b1
 cases rp
 all_goals
  obtain ⟨d0, d1, d2, d3, d4, d5, d6, d7, d8, d9, d10⟩ := cells11 (UB KB)
  go_wp2_with fail
  clear d0 d1 d2 d3 d4 d5 d6 d7 d8 d9 d10
  first | rw [← kt_true (UB HKT)] | rw [← kt_false (UB HKT)]
  have bd := UX (w := w1)
  have KB0 := KB
  replace KB := UC (UE bd (UB KB))
  replace HQC := UC ((bd.cell (p := ⟨qb, qo, none⟩) hqb1).trans (UB HQC))
  replace HQL := UC ((UB HQL).below bd)
  replace bb := UG bb bd
  clear bd KB0
  refine startC [0, 1, 2, 4, 5, 6, 7, 8, 3, 9, 10, 11, 12, 13] (by kernel_rfl) ⟨by kernel_rfl, by kernel_rfl, by kernel_rfl, by kernel_rfl⟩ 8 [(2, fun w' => w'.cell? ⟨w.heap.size, 4, none⟩ = some (.int .i64 m.code)), (5, fun w' => w'.cell? ⟨w.heap.size, 5, none⟩ = some (.slice (some ⟨qb, qo, none⟩) m.qs.length yq)), (8, fun w' => w'.cell? ⟨qb, qo, none⟩ = some (.slice qna q.name.length qnc))] (fun hA => ?_)
  replace hA := UC hA
  repeat ((first | (refine VN ?_ (UB hA) rfl rfl rfl (by rfl) (fun _ _ _ h => h) ?_ ?_; rotate_left; · (intro w; go_simp <;> with_reducible rfl)) | refine VM (UB hA) rfl rfl (by rfl) (fun _ _ _ h => h) ?_); go_simp)
  refine takeC ?_ (UB hA) rfl rfl rfl (by rfl) (fun _ _ _ h => h) (.head _) (cells11 (UB KB)).2.2.2.2.1 ?_ ?_; rotate_left; (· (intro w hSw; (try dsimp only at hSw); go_simp <;> with_reducible rfl)); go_simp
  repeat ((first | (refine VN ?_ (UB hA) rfl rfl rfl (by rfl) (fun _ _ _ h => h) ?_ ?_; rotate_left; · (intro w; go_simp <;> with_reducible rfl)) | refine VM (UB hA) rfl rfl (by rfl) (fun _ _ _ h => h) ?_); go_simp)
  refine takeC ?_ (UB hA) rfl rfl rfl (by rfl) (fun _ _ _ h => h) (.tail _ (.head _)) (cells11 (UB KB)).2.2.2.2.2.1 ?_ ?_; rotate_left; (· (intro w hSw; (try dsimp only at hSw); go_simp <;> with_reducible rfl)); go_simp
  repeat ((first | (refine VN ?_ (UB hA) rfl rfl rfl (by rfl) (fun _ _ _ h => h) ?_ ?_; rotate_left; · (intro w; go_simp <;> with_reducible rfl)) | refine VM (UB hA) rfl rfl (by rfl) (fun _ _ _ h => h) ?_); go_simp)
  refine takeC ?_ (UB hA) rfl rfl rfl (by rfl) (fun _ _ _ h => h) (.tail _ (.tail _ (.head _))) (UB HQC) ?_ ?_; rotate_left; (· (intro w hSw; (try dsimp only at hSw); go_simp <;> with_reducible rfl)); go_simp
  repeat ((first | (refine VN ?_ (UB hA) rfl rfl rfl (by rfl) (fun _ _ _ h => h) ?_ ?_; rotate_left; · (intro w; go_simp <;> with_reducible rfl)) | refine VM (UB hA) rfl rfl (by rfl) (fun _ _ _ h => h) ?_); go_simp)
  refine runC (UB hA) rfl rfl (by kernel_rfl) (by kernel_rfl) (fun K hK => ?_)
  have HK := UC hK
  clear hK
  go_simp
  refine (UB PIT _).mono ?_
  rintro e wq ⟨rfl, rfl⟩
  refine (UB HK).out _ _ (VB (by kernel_rfl) (keepC_yes (cells11 (UB KB)).2.2.2.2.2.1 (keepC_yes (UB HQC) VL))) ?_
  clear HK K
  go_simp
  repeat ((first | (refine VN ?_ (UB hA) rfl rfl rfl (by rfl) (fun _ _ _ h => h) ?_ ?_; rotate_left; · (intro w; go_simp <;> with_reducible rfl)) | refine VM (UB hA) rfl rfl (by rfl) (fun _ _ _ h => h) ?_); go_simp)
  refine runC (UB hA) rfl rfl (by kernel_rfl) (by kernel_rfl) (fun K hK => ?_)
  have HK := UC hK
  clear hK
  go_simp
  refine (UB PN _ (UB HQL)).mono ?_
  rintro e w4 ⟨v4, rfl, o4, b4⟩
  have kc := conv_has o4.has
  have bb4 := UG bb b4
  clear b4 o4
  refine (UB HK).out _ _ (VB (by kernel_rfl) (VB (by kernel_rfl) (VB (by kernel_rfl) VL))) ?_
  clear HK K
  go_simp
  repeat ((first | (refine VN ?_ (UB hA) rfl rfl rfl (by rfl) (fun _ _ _ h => h) ?_ ?_; rotate_left; · (intro w; go_simp <;> with_reducible rfl)) | refine VM (UB hA) rfl rfl (by rfl) (fun _ _ _ h => h) ?_); go_simp)
  refine runC (UB hA) rfl rfl (by kernel_rfl) (by kernel_rfl) (fun K hK => ?_)
  have HK := UC hK
  clear hK
  go_simp
  refine (UB HK).out _ _ (VB (by kernel_rfl) (VB (by kernel_rfl) (VB (by kernel_rfl) VL))) ?_
  clear HK K
  go_simp
  repeat ((first | (refine VN ?_ (UB hA) rfl rfl rfl (by rfl) (fun _ _ _ h => h) ?_ ?_; rotate_left; · (intro w; go_simp <;> with_reducible rfl)) | refine VM (UB hA) rfl rfl (by rfl) (fun _ _ _ h => h) ?_); go_simp)
  have ba := UI (w := w4) (.cells #[.string (strOfNums KT), .string (strOfNums CT), .string (strOfNums NT)] 9)
  have k5 := heap_alloc_new w4 (.cells #[.string (strOfNums KT), .string (strOfNums CT), .string (strOfNums NT)] 9)
  have bb5 := UG bb4 ba
  refine runC (UB hA) rfl rfl (by kernel_rfl) (by kernel_rfl) (fun K hK => ?_)
  have HK := UC hK
  clear hK
  go_simp
  refine (UB HK).out _ _ (VB (by kernel_rfl) (VB (by kernel_rfl) (VB (by kernel_rfl) VL))) ?_
  clear HK K
  go_simp
  repeat ((first | (refine VN ?_ (UB hA) rfl rfl rfl (by rfl) (fun _ _ _ h => h) ?_ ?_; rotate_left; · (intro w; go_simp <;> with_reducible rfl)) | refine VM (UB hA) rfl rfl (by rfl) (fun _ _ _ h => h) ?_); go_simp)
  have HL := UC (addLine3 (B := W.heap.size) (v := .slice none 0 0) (l := []) (World.ownsRow_nil _ _ _ _) bb5.size k5 (by omega) (by omega) (by omega) (UB YK) (UB YC) (UB YN) (by simp))
  generalize w4.alloc (.cells #[.string (strOfNums KT), .string (strOfNums CT), .string (strOfNums NT)] 9) = w5 at *
  clear k5 ba kc
  refine runC (UB hA) rfl rfl (by kernel_rfl) (by kernel_rfl) (fun K hK => ?_)
  have HK := UC hK
  clear hK
  go_simp
  refine (UB HL).mono ?_
  rintro e w6 ⟨v6, rfl, o6, b6⟩
  have bb6 := bb5.trans b6
  rw [List.nil_append] at o6
  have O6 := UC o6
  clear b6 o6 HL
  refine (UB HK).out _ _ (VB (by kernel_rfl) (VB (by kernel_rfl) (VB (by kernel_rfl) VL))) ?_
  clear HK K
  go_simp
  repeat ((first | (refine VN ?_ (UB hA) rfl rfl rfl (by rfl) (fun _ _ _ h => h) ?_ ?_; rotate_left; · (intro w; go_simp <;> with_reducible rfl)) | refine VM (UB hA) rfl rfl (by rfl) (fun _ _ _ h => h) ?_); go_simp)
  refine doneC (UB hA) rfl ?_
  clear hA
  have hK6 := cells11 ((UB KBK) _ bb6)
  obtain ⟨d0, d1, d2, d3, d4, d5, d6, d7, d8, d9, d10⟩ := hK6
  have HL := UC (addRecs_own (ws := ansW) (UB HA) (bb6) (UB O6) (by omega) (by omega) (UB HOA) ((UB H8).1) (by decide) (byt_lit (by decide)) (UB HT))
  go_wp2_with fail
  clear d0 d1 d2 d3 d4 d5 d6 d7 d8 d9 d10
  refine (UB HL).mono ?_
  rintro e w7 ⟨v7, rfl, o7, bb7⟩
  have O7 := UC o7
  clear o7 HL
  have hK7 := cells11 ((UB KBK) _ bb7)
  obtain ⟨d0, d1, d2, d3, d4, d5, d6, d7, d8, d9, d10⟩ := hK7
  have HL := UC (addRecs_own (ws := autW) (UB HBB) (bb7) (UB O7) (by omega) (by omega) (UB HOB) ((UB H8).2.1) (by decide) (byt_lit (by decide)) (UB HT))
  go_wp2_with fail
  clear d0 d1 d2 d3 d4 d5 d6 d7 d8 d9 d10
  refine (UB HL).mono ?_
  rintro e w8 ⟨v8, rfl, o8, bb8⟩
  have O8 := UC o8
  clear o8 HL
  have hK8 := cells11 ((UB KBK) _ bb8)
  obtain ⟨d0, d1, d2, d3, d4, d5, d6, d7, d8, d9, d10⟩ := hK8
  have HL := UC (addRecs_own (ws := morW) (UB HMM) (bb8) (UB O8) (by omega) (by omega) (UB HOM) ((UB H8).2.2) (by decide) (byt_lit (by decide)) (UB HT))
  go_wp2_with fail
  clear d0 d1 d2 d3 d4 d5 d6 d7 d8 d9 d10
  refine (UB HL).mono ?_
  rintro e w9 ⟨v9, rfl, o9, bb9⟩
  have O9 := UC o9
  clear o9 HL
  go_wp2_with fail
  go_ret
  exact ⟨_, rfl, (UB O9).mono b0.size, UG b0 bb9⟩
set_option maxHeartbeats 1000000 in
set_option maxRecDepth 100000 in
theorem implMsgText_no {vq va vb vm vp vu : Value} {m : Mg} {w : World} (h : HasM w vq va vb vm vp vu m) (hok : okM m = false) :
  Calls Tryz.prog 8 #[.agg #[.int .i64 m.id, .bool m.reply, .int .i64 m.op, .bool m.auth, .int .i64 m.code, vq, va, vb, vm, vp, vu]] w fun e w' => ∃ v', e = .returned v' ∧ Own w.heap.size 5 w' v' [] ∧ Below w.heap.size w w' := by
 obtain ⟨xq, yq, rfl, _, zq⟩ := h.qs.form
 obtain ⟨xa, ya, rfl, _, za⟩ := h.ans.form
 obtain ⟨xb, yb, rfl, _, zb⟩ := h.aus.form
 obtain ⟨xm, ym, rfl, _, zm⟩ := h.more.form
 obtain ⟨xp, yp, rfl, _, zp⟩ := h.pres.form
 obtain ⟨xu, yu, rfl, _, zu⟩ := h.ups.form
 have CM := implMsgOk_has (h.below (UI (w := w) (.cells #[.int .i64 m.id, .bool m.reply, .int .i64 m.op, .bool m.auth, .int .i64 m.code, .slice xq m.qs.length yq, .slice xa m.ans.length ya, .slice xb m.aus.length yb, .slice xm m.more.length ym, .slice xp m.pres.length yp, .slice xu m.ups.length yu] 27)))
 rw [hok] at CM
 have b0 := UI (w := w) (.cells #[.int .i64 m.id, .bool m.reply, .int .i64 m.op, .bool m.auth, .int .i64 m.code, .slice xq m.qs.length yq, .slice xa m.ans.length ya, .slice xb m.aus.length yb, .slice xm m.more.length ym, .slice xp m.pres.length yp, .slice xu m.ups.length yu] 27)
 replace CM := UC CM
 clear h hok
 go_enter Tryz.func8, Tryz.ntmps8
 go_wp2_with fail
 generalize w.alloc (.cells #[.int .i64 m.id, .bool m.reply, .int .i64 m.op, .bool m.auth, .int .i64 m.code, .slice xq m.qs.length yq, .slice xa m.ans.length ya, .slice xb m.aus.length yb, .slice xm m.more.length ym, .slice xp m.pres.length yp, .slice xu m.ups.length yu] 27) = W at *
 refine (UB CM).mono ?_
 rintro e w1 ⟨rfl, b1⟩
 go_wp2_with fail
 go_ret
 exact ⟨_, rfl, World.ownsRow_nil _ _ _ _, UG b0 b1⟩
theorem implMsgText_has {vq va vb vm vp vu : Value} {m : Mg} {w : World} (h : HasM w vq va vb vm vp vu m) (h8 : BytM m) (ht : Pow10 w) :
  Calls Tryz.prog 8 #[.agg #[.int .i64 m.id, .bool m.reply, .int .i64 m.op, .bool m.auth, .int .i64 m.code, vq, va, vb, vm, vp, vu]] w fun e w' => ∃ v', e = .returned v' ∧ Own w.heap.size 5 w' v' (msgText m) ∧ Below w.heap.size w w' := by
 cases hok : okM m with
 | false => rw [msgText_no hok]; exact implMsgText_no h hok
 | true => rw [msgText_yes hok]; exact implMsgText_yes h hok h8 ht
set_option maxHeartbeats 2000000 in
set_option maxRecDepth 100000 in
theorem l2put_own {B : Nat} {vb v : Value} {l : List Int} {n : List (List Int)} {w : World} (hvb : Own B 5 w vb l) (hB : B ≤ w.heap.size) (hl : l.length ≤ 1099511620000) (h : HasLAt B w v n) (h6 : n.length ≤ 6) (hlen : ∀ k, k < n.length → (n.getD k []).length ≤ 15) (hdl : ∀ k, (wires n k).length ≤ 16 * k) :
  Calls Tryz.prog 39 #[vb, .agg #[v]] w fun e w' => ∃ v', e = .returned v' ∧ Own B 5 w' v' (l ++ wire n) ∧ Below B w w' := by
 obtain ⟨a, cap, rfl, hcl, hm⟩ := h.hasL.form
 unfold maxLen at hm
 have HDS := UC (wires_succ n)
 have HD0 := UC (wires_zero n)
 have HLEN := UC hlen
 have HDL := UC hdl
 clear hdl hlen
 unfold wire
 generalize wires n = D at *
 have b0 := UI (w := w) (.cells #[.slice a n.length cap] 37)
 have k0 := heap_alloc_new w (.cells #[.slice a n.length cap] 37)
 have h0 := UC (h.below b0)
 have v0 := UC (hvb.alloc (.cells #[.slice a n.length cap] 37))
 clear h hvb
 have z0 := VC k0
 generalize hn : n.length = m at *
 have HN := UC hn
 clear hn
 go_enter Tryz.func39, Tryz.ntmps39
 go_wp2
 generalize w.alloc (.cells #[.slice a m cap] 37) = w1 at *
 go_loopw [0, 5] (fun o i wr => ∃ k : Nat, k ≤ m ∧ i = .int .i64 k ∧ Own B 5 wr o (l ++ D k) ∧ Below B w1 wr ∧ wr.heap[w.heap.size]? = some (.cells #[.slice a m cap] 37)) (fun _ i _ => m - (intOf i).toNat)
 case atStart => exact ⟨0, Nat.zero_le _, rfl, by rw [UB HD0, List.append_nil]; exact UB v0, Below.refl _ _, k0⟩
 case round =>
  obtain ⟨k, hk, rfl, ho, hb, hk1⟩ := hrel
  have c1 := US hk1
  have zb : B ≤ wr.heap.size := by have := hb.size; omega
  have hdk := UB HDL k
  have hdk2 : (l ++ D k).length ≤ 1099511620000 + 96 := by rw [List.length_append]; omega
  by_cases hlt : k < m
  ·obtain ⟨b, off, u, rfl, hbl, hc, hu⟩ := ((UB h0).low hb (Nat.le_refl _)).here (k := k) (by rw [UB HN]; exact hlt)
   have hds := UC (UB HDS k hlt)
   have hlk := UB HLEN k hlt
   generalize n.getD k [] = lab at *
   have HU := UC hu
   obtain ⟨ua, uc, rfl, _⟩ := hu.form
   clear hu
   have hwrap := wrap_u8 lab.length (by omega)
   have hod := UC (ho.below (UX (w := wr)))
   have hbd := UC (hb.drew)
   have kd := UE (UX (w := wr)) hk1
   have hcd := US kd
   have hud : wr.drew.cell? ⟨b, off + k, none⟩ = some (.slice ua lab.length uc) := hc
   have HUAL := UC (show ∀ o, (wr.drew.alloc o).cell? ⟨b, off + k, none⟩ = some (.slice ua lab.length uc) from fun o => ((UI o).cell (p := ⟨b, off + k, none⟩) (by show b < wr.heap.size; omega)).trans hud)
   have KAL := UC (show ∀ o, (wr.drew.alloc o).heap[w.heap.size]? = some (.cells #[.slice (some ⟨b, off, none⟩) m cap] 37) from fun o => UE (UI o) kd)
   have BAL := UC (show ∀ o, Below B w1 (wr.drew.alloc o) from fun o => hb.drew.alloc zb o)
   have UAL := UC (show ∀ o, HasAt B (wr.drew.alloc o) (.slice ua lab.length uc) lab from fun o => (UB HU).low ((Below.refl B wr).drew.alloc zb o) (Nat.le_refl _))
   have ZAL := UC (show ∀ o, B ≤ (wr.drew.alloc o).heap.size from fun o => Nat.le_trans zb (UI (w := wr.drew) o).size)
   have KD := UC kd
   have HC := UC hc
   clear ho kd hud hcd hc
   go_wp2_with fail
   clear c1
   go_region_held3 (fun w' => w'.cell? ⟨w.heap.size, 0, none⟩ = some (.slice (some ⟨b, off, none⟩) m cap) ∧ w'.cell? ⟨b, off + k, none⟩ = some (.slice ua lab.length uc))
    (first | exact ⟨US (UB KD), UB HC⟩ | exact ⟨US (UB KAL _), UB HUAL _⟩ | exact ⟨US k2, u2⟩ | exact ⟨US k3, u3⟩)
    (first
    | (refine step_append_bytes rfl (.tmp 13) (.tmp 21) 22 5 rfl Tryz.underlying22 VJ B _ _ (l ++ D k) [(lab.length : Int)] (by simp [Act.eval]) (by simp [Act.eval]) ((UB hod).alloc _) (own_lit wr.drew 0 5 [(lab.length : Int)] (Nat.zero_le _) (by simp [maxLen])).reads (by simp only [List.length_cons, List.length_nil]; omega) (UB ZAL _) ?_; intro v2 w2 o2 g2; obtain ⟨k2, b2, z2, U2, u2⟩ := put_step g2 ((UB hod).alloc _) (UB ZAL _) (UB KAL _) (by decide) (UB BAL _) (UB UAL _) (UB HUAL _) hbl)
    | (refine step_append_bytes rfl (.tmp 22) (.tmp 27) 22 5 rfl Tryz.underlying22 VJ B _ _ ((l ++ D k) ++ [(lab.length : Int)]) lab (by simp [Act.eval]) (by simp [Act.eval]) o2 U2.has.reads (by rw [List.length_append, List.length_cons, List.length_nil]; omega) z2 ?_; intro v3 w3 o3 g3; obtain ⟨k3, b3, z3, U3, u3⟩ := put_step g3 o2 z2 k2 (by decide) b2 U2 u2 hbl))
   all_goals
    go_wp2_with fail
    exact ⟨⟨k + 1, by omega, by go_num, by rw [UB hds]; simpa only [List.append_assoc, List.singleton_append] using o3, b3, k3⟩, by simp [intOf]; omega⟩
  ·obtain rfl : k = m := by omega
   go_wp2_with (at_builtin; refine append_bytes rfl _ _ 22 5 rfl Tryz.underlying22 VJ B _ _ (l ++ D k) [0] rfl rfl (ho.alloc _) (own_lit wr 0 5 [0] (Nat.zero_le _) (by simp [maxLen])).reads (by simp only [List.length_cons, List.length_nil]; omega) (by simp; omega) ?_)
   intro v4 w4 o4 g4
   have b4 : Below B w1 w4 := (hb.alloc zb _).grown g4 (by simp; omega) (fun q hq => (ho.lt q hq).1)
   go_wp2_with fail
   go_ret
   exact ⟨v4, rfl, by simpa only [List.append_assoc] using o4, (b0.mono hB).trans b4⟩
set_option maxHeartbeats 800000
set_option maxRecDepth 100000

theorem specPut32_no {B : Nat} {v : Value} {l : List Int} (n : Int) {w : World} (h : Own B 5 w v l) (hl : l.length ≤ 1048576) (hn : n < 0 ∨ 4294967295 < n) :
  Calls Tryz.prog 64 #[v, .int .i64 n] w fun e w' => ∃ v', e = .returned v' ∧ Own w.heap.size 5 w' v' l ∧ Below w.heap.size w w' := by
 by_cases h0 : n < 0
 ·go_enter Tryz.func64, Tryz.ntmps64
  go_wp2_with (at_builtin; refine append_bytes rfl _ _ 22 5 rfl Tryz.underlying22 VJ w.heap.size _ v [] l rfl rfl (own_lit w w.heap.size 5 [] (Nat.le_refl _) (by simp)) (h.alloc _).reads (by simp; omega) (by simp) ?_)
  intro v' w2 hown hgrow
  go_wp2
  go_ret
  exact ⟨v', rfl, hown, ((Below.refl _ _).alloc (Nat.le_refl _) _).grown hgrow (by simp) (fun k hk => by simp [Value.ownBlock] at hk; omega)⟩
 ·have h1 : 4294967295 < n := by omega
  go_enter Tryz.func64, Tryz.ntmps64
  go_wp2_with (at_builtin; refine append_bytes rfl _ _ 22 5 rfl Tryz.underlying22 VJ w.heap.size _ v [] l rfl rfl (own_lit w w.heap.size 5 [] (Nat.le_refl _) (by simp)) (h.alloc _).reads (by simp; omega) (by simp) ?_)
  intro v' w2 hown hgrow
  go_wp2
  go_ret
  exact ⟨v', rfl, hown, ((Below.refl _ _).alloc (Nat.le_refl _) _).grown hgrow (by simp) (fun k hk => by simp [Value.ownBlock] at hk; omega)⟩

theorem specPut32_yes {B : Nat} {v : Value} {l : List Int} (n : Int) {w : World} (h : Own B 5 w v l) (hl : l.length ≤ 1048576) (h0 : 0 ≤ n) (h1 : n ≤ 4294967295) :
  Calls Tryz.prog 64 #[v, .int .i64 n] w fun e w' => ∃ v', e = .returned v' ∧ Own w.heap.size 5 w' v' (l ++ [n / 16777216, n / 65536 % 256, n / 256 % 256, n % 256]) ∧ Below w.heap.size w w' := by
 go_enter Tryz.func64, Tryz.ntmps64
 go_wp2_with (at_builtin; refine append_bytes rfl _ _ 22 5 rfl Tryz.underlying22 VJ w.heap.size _ v [] l rfl rfl (own_lit w w.heap.size 5 [] (Nat.le_refl _) (by simp)) (h.alloc _).reads (by simp; omega) (by simp) ?_)
 intro v1 w1 o1 hgrow
 have b1 : Below w.heap.size w w1 := ((Below.refl _ _).alloc (Nat.le_refl _) _).grown hgrow (by simp) (fun k hk => by simp [Value.ownBlock] at hk; omega)
 clear hgrow
 have hsz := b1.size
 go_wp2_with (at_builtin; refine append_bytes rfl _ _ 22 5 rfl Tryz.underlying22 VJ w.heap.size v1 _ l [n / 16777216, n / 65536 % 256, n / 256 % 256, n % 256] rfl rfl (o1.alloc _) (own_put32 w1 0 5 n (Nat.zero_le _)).reads (by simp; omega) (by simp; omega) ?_)
 intro v' w2 hown hgrow
 go_wp2
 go_ret
 exact ⟨v', rfl, hown, (b1.alloc hsz _).grown hgrow (by simp; omega) (fun k hk => (o1.lt k hk).1)⟩

theorem specPut32_any {B : Nat} {v : Value} {l : List Int} (n : Int) {w : World} (h : Own B 5 w v l) (hl : l.length ≤ 1048576) :
  Calls Tryz.prog 64 #[v, .int .i64 n] w fun e w' => ∃ v', e = .returned v' ∧ Own w.heap.size 5 w' v' (put32 l n) ∧ Below w.heap.size w w' := by
 by_cases hn : 0 ≤ n ∧ n ≤ 4294967295
 ·have e : put32 l n = l ++ [n / 16777216, n / 65536 % 256, n / 256 % 256, n % 256] := by unfold put32; rw [if_pos hn]
  rw [e]; exact specPut32_yes n h hl hn.1 hn.2
 ·have e : put32 l n = l := by unfold put32; rw [if_neg hn]
  rw [e]; exact specPut32_no n h hl (by omega)
end Go.Proofs.YtbabmdiklefgcaaGreatDoor
