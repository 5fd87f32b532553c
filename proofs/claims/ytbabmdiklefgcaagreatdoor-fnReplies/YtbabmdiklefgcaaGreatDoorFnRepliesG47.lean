/-
  The walk of laws.FnReplies. What is known of a name that came in as an argument: a struct of one slice of slices of bytes, wherever they lie.
-/
import Derived.Test.YtbabmdiklefgcaaGreatDoorFnRepliesG22
import Derived.Test.YtbabmdiklefgcaaGreatDoorFnRepliesG30
import Derived.Test.YtbabmdiklefgcaaGreatDoorFnRepliesG35
import Derived.Test.YtbabmdiklefgcaaGreatDoorFnRepliesG43
import Derived.Test.YtbabmdiklefgcaaGreatDoorFnRepliesG46
import Derived.Test.YtbabmdiklefgcaaGreatDoorFnRepliesG15
import Derived.Deep.Cut
import Derived.Test.YtbabmdiklefgcaaGreatDoorFnRepliesG01
import Derived.ProofKit
import Derived.ChangeArms
import Derived.ChangeSame
import Derived.ChangeSlices
namespace Go.Proofs.YtbabmdiklefgcaaGreatDoor
open Go.RowKit
set_option linter.unusedVariables false

theorem reply_bad {vq va vb vm vp vu : Value} {m : Mg} {w : World} (h : HasM w vq va vb vm vp vu m) (c : Int) (hn : ¬ (okM m = true ∧ 0 ≤ c ∧ c ≤ 10)) :
  Calls Tryz.prog 5 #[.agg #[.int .i64 m.id, .bool m.reply, .int .i64 m.op, .bool m.auth, .int .i64 m.code, vq, va, vb, vm, vp, vu], .int .i64 c] w fun e w' => ∃ zq zcq za zca zb zcb zm zcm zp zcp zu zcu, e = .returned (.agg #[.int .i64 0, .bool false, .int .i64 0, .bool false, .int .i64 0, .slice zq 0 zcq, .slice za 0 zca, .slice zb 0 zcb, .slice zm 0 zcm, .slice zp 0 zcp, .slice zu 0 zcu]) ∧ Below w.heap.size w w' := by
 have HR := implReplyTo_has h c
 rw [replyM_no hn] at HR
 refine HR.mono ?_
 rintro e w' ⟨uq, ua, ub, um, up, uu, rfl, o, hb⟩
 have hy := o.has
 obtain ⟨zq, zcq, rfl, _⟩ := hy.qs.form
 obtain ⟨za, zca, rfl, _⟩ := hy.ans.form
 obtain ⟨zb, zcb, rfl, _⟩ := hy.aus.form
 obtain ⟨zm, zcm, rfl, _⟩ := hy.more.form
 obtain ⟨zp, zcp, rfl, _⟩ := hy.pres.form
 obtain ⟨zu, zcu, rfl, _⟩ := hy.ups.form
 exact ⟨zq, zcq, za, zca, zb, zcb, zm, zcm, zp, zcp, zu, zcu, rfl, hb⟩
theorem reply_good {vq va vb vm vp vu : Value} {m : Mg} {w : World} (h : HasM w vq va vb vm vp vu m) (c : Int) (hy : okM m = true ∧ 0 ≤ c ∧ c ≤ 10) :
  Calls Tryz.prog 5 #[.agg #[.int .i64 m.id, .bool m.reply, .int .i64 m.op, .bool m.auth, .int .i64 m.code, vq, va, vb, vm, vp, vu], .int .i64 c] w fun e w' => ∃ yq1 ycq ya1 yca yb1 ycb ym1 ycm yp1 ycp yu1 ycu, e = .returned (.agg #[.int .i64 m.id, .bool true, .int .i64 m.op, .bool false, .int .i64 c, .slice yq1 m.qs.length ycq, .slice ya1 0 yca, .slice yb1 0 ycb, .slice ym1 0 ycm, .slice yp1 0 ycp, .slice yu1 0 ycu]) ∧ HasM w' (.slice yq1 m.qs.length ycq) (.slice ya1 0 yca) (.slice yb1 0 ycb) (.slice ym1 0 ycm) (.slice yp1 0 ycp) (.slice yu1 0 ycu) (⟨m.id, true, m.op, false, c, m.qs, [], [], [], [], []⟩ : Mg) ∧ Below w.heap.size w w' := by
 have HR := implReplyTo_has h c
 rw [replyM_yes hy] at HR
 refine HR.mono ?_
 rintro e w' ⟨uq, ua, ub, um, up, uu, rfl, o, hb⟩
 have hy := o.has
 obtain ⟨zq, zcq, rfl, _⟩ := hy.qs.form
 obtain ⟨za, zca, rfl, _⟩ := hy.ans.form
 obtain ⟨zb, zcb, rfl, _⟩ := hy.aus.form
 obtain ⟨zm, zcm, rfl, _⟩ := hy.more.form
 obtain ⟨zp, zcp, rfl, _⟩ := hy.pres.form
 obtain ⟨zu, zcu, rfl, _⟩ := hy.ups.form
 exact ⟨zq, zcq, za, zca, zb, zcb, zm, zcm, zp, zcp, zu, zcu, rfl, hy, hb⟩
set_option maxHeartbeats 8000000 in
set_option maxRecDepth 100000 in
theorem lawReplies (a : Option Addr) (cap : Nat) (l : List Int) (w : World) (hL : Lies w a l) (hb : ∀ k, 0 ≤ l.getD k 0 ∧ l.getD k 0 ≤ 255) (hm : l.length ≤ maxLen) (ht : Pow10 w) :
  Calls Tryz.prog 3 #[.slice a l.length cap] w fun e w' => e = .returned (.bool true) ∧ Below w.heap.size w w' := by
 have HD := UC (drawReplyTo_any (cap := cap) l hL rfl hb hm)
 have HT := UC ht
 clear hL hb hm ht
 have bb := Below.refl w.heap.size w
 go_enter Tryz.func3, Tryz.ntmps3
 go_wp2_with fail
 refine (UB HD).mono ?_
 rintro e w1 ⟨vq, va, vb, vm, vp, vu, m, c, B, rfl, hc0, hc1, dm, b1⟩
 clear HD
 obtain ⟨h8, hx⟩ : BytM m ∧ HasM w1 vq va vb vm vp vu m := ⟨dm.byt, dm.hasM⟩
 clear dm
 obtain ⟨xq, xcq, rfl, _, lq⟩ := hx.qs.form
 obtain ⟨xa, xca, rfl, _, la⟩ := hx.ans.form
 obtain ⟨xb, xcb, rfl, _, lb⟩ := hx.aus.form
 obtain ⟨xm, xcm, rfl, _, lm⟩ := hx.more.form
 obtain ⟨xp, xcp, rfl, _, lp⟩ := hx.pres.form
 obtain ⟨xu, xcu, rfl, _, lu⟩ := hx.ups.form
 have HX := UC hx
 clear hx
 replace bb := UG bb b1
 replace HT := UC ((UB HT).below b1)
 have z1 := b1.size
 clear b1
 have ba := UI (w := w1) (.cells #[.int .i64 m.id, .bool m.reply, .int .i64 m.op, .bool m.auth, .int .i64 m.code, .slice xq m.qs.length xcq, .slice xa m.ans.length xca, .slice xb m.aus.length xcb, .slice xm m.more.length xcm, .slice xp m.pres.length xcp, .slice xu m.ups.length xcu] 27)
 have KA := UC (heap_alloc_new w1 (.cells #[.int .i64 m.id, .bool m.reply, .int .i64 m.op, .bool m.auth, .int .i64 m.code, .slice xq m.qs.length xcq, .slice xa m.ans.length xca, .slice xb m.aus.length xcb, .slice xm m.more.length xcm, .slice xp m.pres.length xcp, .slice xu m.ups.length xcu] 27))
 replace bb := UG bb ba
 replace HT := UC ((UB HT).below ba)
 replace HX := UC ((UB HX).below ba)
 have z2 := ba.size
 clear ba
 obtain ⟨KA_0, KA_1, KA_2, KA_3, KA_4, KA_5, KA_6, KA_7, KA_8, KA_9, KA_10⟩ := cells11 (UB KA)
 go_wp2_with fail
 clear KA_0 KA_1 KA_2 KA_3 KA_4 KA_5 KA_6 KA_7 KA_8 KA_9 KA_10
 generalize w1.alloc (.cells #[.int .i64 m.id, .bool m.reply, .int .i64 m.op, .bool m.auth, .int .i64 m.code, .slice xq m.qs.length xcq, .slice xa m.ans.length xca, .slice xb m.aus.length xcb, .slice xm m.more.length xcm, .slice xp m.pres.length xcp, .slice xu m.ups.length xcu] 27) = W1 at *
 have HS := UC (show ∀ w : World, HasM w (.slice xq m.qs.length xcq) (.slice xa m.ans.length xca) (.slice xb m.aus.length xcb) (.slice xm m.more.length xcm) (.slice xp m.pres.length xcp) (.slice xu m.ups.length xcu) m → Calls Tryz.prog 6 #[.agg #[.int .i64 m.id, .bool m.reply, .int .i64 m.op, .bool m.auth, .int .i64 m.code, .slice xq m.qs.length xcq, .slice xa m.ans.length xca, .slice xb m.aus.length xcb, .slice xm m.more.length xcm, .slice xp m.pres.length xcp, .slice xu m.ups.length xcu]] w fun e w' => e = .returned (.bool (okM m)) ∧ Below w.heap.size w w' from fun w h => specMsgOk_has h)
 have HR := UC (show ∀ w : World, HasM w (.slice xq m.qs.length xcq) (.slice xa m.ans.length xca) (.slice xb m.aus.length xcb) (.slice xm m.more.length xcm) (.slice xp m.pres.length xcp) (.slice xu m.ups.length xcu) m → okM m = true ∧ 0 ≤ c ∧ c ≤ 10 → Calls Tryz.prog 5 #[.agg #[.int .i64 m.id, .bool m.reply, .int .i64 m.op, .bool m.auth, .int .i64 m.code, .slice xq m.qs.length xcq, .slice xa m.ans.length xca, .slice xb m.aus.length xcb, .slice xm m.more.length xcm, .slice xp m.pres.length xcp, .slice xu m.ups.length xcu], .int .i64 c] w _ from fun w h hy => reply_good h c hy)
 have HN := UC (show ∀ w : World, HasM w (.slice xq m.qs.length xcq) (.slice xa m.ans.length xca) (.slice xb m.aus.length xcb) (.slice xm m.more.length xcm) (.slice xp m.pres.length xcp) (.slice xu m.ups.length xcu) m → ¬ (okM m = true ∧ 0 ≤ c ∧ c ≤ 10) → Calls Tryz.prog 5 #[.agg #[.int .i64 m.id, .bool m.reply, .int .i64 m.op, .bool m.auth, .int .i64 m.code, .slice xq m.qs.length xcq, .slice xa m.ans.length xca, .slice xb m.aus.length xcb, .slice xm m.more.length xcm, .slice xp m.pres.length xcp, .slice xu m.ups.length xcu], .int .i64 c] w _ from fun w h hn => reply_bad h c hn)
 have HTX := UC (show ∀ w : World, HasM w (.slice xq m.qs.length xcq) (.slice xa m.ans.length xca) (.slice xb m.aus.length xcb) (.slice xm m.more.length xcm) (.slice xp m.pres.length xcp) (.slice xu m.ups.length xcu) m → Pow10 w → Calls Tryz.prog 8 #[.agg #[.int .i64 m.id, .bool m.reply, .int .i64 m.op, .bool m.auth, .int .i64 m.code, .slice xq m.qs.length xcq, .slice xa m.ans.length xca, .slice xb m.aus.length xcb, .slice xm m.more.length xcm, .slice xp m.pres.length xcp, .slice xu m.ups.length xcu]] w _ from fun w h hp => implMsgText_has h h8 hp)
 by_cases hyes : okM m = true ∧ 0 ≤ c ∧ c ≤ 10
 ·-- the message may be, and so may the number
  obtain ⟨hok, hk0, hk1⟩ := id hyes
  rw [hok] at HS
  have hnl := UC (msgText_nl hok h8)
  have hro := reply_ok hok hk0 hk1
  have hmay : mayM m = true := by unfold okM at hok; simp only [Bool.and_eq_true] at hok; exact hok.1
  have hq0 : 0 < m.qs.length := by have := (mayM_parts hmay).2.2.1; omega
  obtain ⟨ha12, hb12, hm12, _⟩ := (mayM_parts hmay).2.2.2.2.2.2.1
  clear hok hmay h8 HN
  refine (UB HR _ (UB HX) hyes).mono ?_
  rintro e w3 ⟨yq1, ycq, ya1, yca, yb1, ycb, ym1, ycm, yp1, ycp, yu1, ycu, rfl, hy, b3⟩
  clear HR hyes
  replace hy := UC hy
  replace bb := UG bb b3
  replace HT := UC ((UB HT).below b3)
  replace HX := UC ((UB HX).below b3)
  replace KA := UC (UE b3 (UB KA))
  have z3 := b3.size
  clear b3
  have ba := UI (w := w3) (.cells #[.int .i64 m.id, .bool true, .int .i64 m.op, .bool false, .int .i64 c, .slice yq1 m.qs.length ycq, .slice ya1 0 yca, .slice yb1 0 ycb, .slice ym1 0 ycm, .slice yp1 0 ycp, .slice yu1 0 ycu] 27)
  have KR := UC (heap_alloc_new w3 (.cells #[.int .i64 m.id, .bool true, .int .i64 m.op, .bool false, .int .i64 c, .slice yq1 m.qs.length ycq, .slice ya1 0 yca, .slice yb1 0 ycb, .slice ym1 0 ycm, .slice yp1 0 ycp, .slice yu1 0 ycu] 27))
  replace bb := UG bb ba
  replace HT := UC ((UB HT).below ba)
  replace HX := UC ((UB HX).below ba)
  replace KA := UC (UE ba (UB KA))
  replace hy := UC ((UB hy).below ba)
  have z4 := ba.size
  clear ba
  obtain ⟨KA_0, KA_1, KA_2, KA_3, KA_4, KA_5, KA_6, KA_7, KA_8, KA_9, KA_10⟩ := cells11 (UB KA)
  go_wp2_with fail
  clear KA_0 KA_1 KA_2 KA_3 KA_4 KA_5 KA_6 KA_7 KA_8 KA_9 KA_10
  generalize w3.alloc (.cells #[.int .i64 m.id, .bool true, .int .i64 m.op, .bool false, .int .i64 c, .slice yq1 m.qs.length ycq, .slice ya1 0 yca, .slice yb1 0 ycb, .slice ym1 0 ycm, .slice yp1 0 ycp, .slice yu1 0 ycu] 27) = W2 at *
  refine (UB HS _ (UB HX)).mono ?_
  rintro e w4 ⟨rfl, b4⟩
  clear HS
  replace bb := UG bb b4
  replace HT := UC ((UB HT).below b4)
  replace HX := UC ((UB HX).below b4)
  replace KA := UC (UE b4 (UB KA))
  replace hy := UC ((UB hy).below b4)
  replace KR := UC (UE b4 (UB KR))
  have z5 := b4.size
  clear b4
  have hcn : ¬ c < 0 := by omega
  have hcg : ¬ 10 < c := by omega
  obtain ⟨KA_0, KA_1, KA_2, KA_3, KA_4, KA_5, KA_6, KA_7, KA_8, KA_9, KA_10⟩ := cells11 (UB KA)
  go_wp2_with fail
  clear KA_0 KA_1 KA_2 KA_3 KA_4 KA_5 KA_6 KA_7 KA_8 KA_9 KA_10
  refine (UB HTX _ (UB HX) (UB HT)).mono ?_
  rintro e w5 ⟨vt, rfl, ot, b5⟩
  clear HTX HT
  replace bb := UG bb b5
  replace HX := UC ((UB HX).below b5)
  replace KA := UC (UE b5 (UB KA))
  replace hy := UC ((UB hy).below b5)
  replace KR := UC (UE b5 (UB KR))
  have z6 := b5.size
  clear b5
  generalize msgText m = tx at *
  obtain ⟨ta, tc, rfl, ht⟩ := ot.lies
  have htm : tx.length ≤ 9223372036854775807 := by
   rcases ot.form with ⟨_, rfl⟩ | ⟨_, _, _, _, _, hl1, hl2, _⟩
   ·simp
   ·unfold maxLen at hl2; omega
  have HTX := UC ht
  have HTM := UC htm
  clear ht ot htm
  have HMO := UC (show ∀ w : World, HasM w (.slice yq1 m.qs.length ycq) (.slice ya1 0 yca) (.slice yb1 0 ycb) (.slice ym1 0 ycm) (.slice yp1 0 ycp) (.slice yu1 0 ycu) (⟨m.id, true, m.op, false, c, m.qs, [], [], [], [], []⟩ : Mg) → Calls Tryz.prog 9 #[.agg #[.int .i64 m.id, .bool true, .int .i64 m.op, .bool false, .int .i64 c, .slice yq1 m.qs.length ycq, .slice ya1 0 yca, .slice yb1 0 ycb, .slice ym1 0 ycm, .slice yp1 0 ycp, .slice yu1 0 ycu]] w fun e w' => e = .returned (.bool true) ∧ Below w.heap.size w w' from fun w h => by
   have := implMsgOk_has h
   rwa [hro] at this)
  clear hro
  as_aux_lemma =>
   go_wp2_with fail
   go_loopw [7, 8] (fun ln i wr => ∃ k : Nat, k ≤ tx.length ∧ i = .int .i64 k ∧ ln = .int .i64 (nl (tx.take k)) ∧ Below w5.heap.size w5 wr) (fun _ i _ => tx.length - (intOf i).toNat)
   case atStart => exact ⟨0, by omega, rfl, rfl, Below.refl _ _⟩
   case round =>
    obtain ⟨k, hk, rfl, rfl, hbr⟩ := hrel
    by_cases hlt : k < tx.length
    ·have hlt' : (k : Int) < (tx.length : Int) := by omega
     obtain ⟨b, off, rfl, hbk, hcx⟩ := ((UB HTX).below hbr).here hlt
     have hns := UC (nl_succ tx k hlt)
     have hnk : nl (tx.take k) ≤ k := by have := nl_le (tx.take k); rw [List.length_take] at this; omega
     have hmx := UB HTM
     by_cases h10 : tx.getD k 0 = 10
     ·rw [h10] at hcx
      have hns' : nl (tx.take (k + 1)) = nl (tx.take k) + 1 := by rw [UB hns, if_pos h10]
      clear h10 hns
      generalize nl (tx.take k) = N at *
      generalize htl : tx.length = L at *
      go_wp2_with fail
      refine ⟨⟨k + 1, by omega, by go_num, ?_, hbr⟩, by simp [intOf]; omega⟩
      rw [hns']
      go_num
     ·have hne : (tx.getD k 0 == 10) = false := by simpa using h10
      have hns' : nl (tx.take (k + 1)) = nl (tx.take k) := by rw [UB hns, if_neg h10]; rfl
      clear h10 hns
      generalize nl (tx.take k) = N at *
      generalize tx.getD k 0 = y at *
      generalize htl : tx.length = L at *
      go_wp2_with fail
      refine ⟨⟨k + 1, by omega, by go_num, ?_, hbr⟩, by simp [intOf]; omega⟩
      rw [hns']
    ·obtain rfl : k = tx.length := by omega
     have hnn : ¬ ((tx.length : Int) < (tx.length : Int)) := by omega
     rw [List.take_length, UB hnl]
     generalize htl : tx.length = L at *
     clear hnl HTX
     as_aux_lemma =>
      replace bb := UG bb hbr
      replace HX := UC ((UB HX).below hbr)
      replace hy := UC ((UB hy).below hbr)
      replace KA := UC (UE hbr (UB KA))
      replace KR := UC (UE hbr (UB KR))
      have zbr := hbr.size
      clear hbr
      go_upto_region 12 with fail
      have bd := UX (w := wr)
      replace bb := UG bb bd
      replace HX := UC ((UB HX).below bd)
      replace KA := UC (UE bd (UB KA))
      replace hy := UC ((UB hy).below bd)
      replace KR := UC (UE bd (UB KR))
      have z7 := bd.size
      clear bd
      obtain ⟨qb, qo, qvs, rfl, hqb, hqr, qv, rfl, hqL⟩ := (UB HX).qs.here (k := 0) hq0
      obtain ⟨rb, ro, rvs, rfl, hrb, hrr, rv, rfl, hrL⟩ := (UB hy).qs.here (k := 0) hq0
      obtain ⟨na, nc, rfl, _⟩ := hqL.form
      obtain ⟨ra, rc, rfl, _⟩ := hrL.form
      rw [Nat.zero_mul, Nat.add_zero] at hqr hrr
      have HQR := UC (range2 hqr)
      have HRR := UC (range2 hrr)
      have HQL := UC hqL
      have HRL := UC (show HasL _ (.slice ra (m.qs.getD 0 queZ).name.length rc) (m.qs.getD 0 queZ).name from hrL)
      clear hqL hrL hqr hrr
      generalize m.qs.getD 0 queZ = qq at *
      have HQC := UC (show _ from (UB HQR).1)
      have HRC := UC (show _ from (UB HRR).1)
      clear HQR HRR
      refine startC [0, 1, 2, 3, 4, 5, 6, 7, 8, 9, 10, 11, 12, 13, 14, 15, 16, 17, 18, 19, 20, 21, 22, 23, 24, 25, 26, 27, 28, 29, 30, 31, 32, 33, 34, 35, 36, 37, 38, 39, 40, 41, 42, 43, 44, 45, 46, 47, 48, 49, 50, 51, 52, 53, 54, 55] (by kernel_rfl) ⟨by kernel_rfl, by kernel_rfl, by kernel_rfl, by kernel_rfl⟩ 12 [(1, fun w' => w'.cell? ⟨w3.heap.size, 1, none⟩ = some (.bool true)), (4, fun w' => w'.cell? ⟨w3.heap.size, 0, none⟩ = some (.int .i64 m.id)), (6, fun w' => w'.cell? ⟨w1.heap.size, 0, none⟩ = some (.int .i64 m.id)), (11, fun w' => w'.cell? ⟨w3.heap.size, 4, none⟩ = some (.int .i64 c)), (17, fun w' => w'.cell? ⟨w3.heap.size, 2, none⟩ = some (.int .i64 m.op)), (19, fun w' => w'.cell? ⟨w1.heap.size, 2, none⟩ = some (.int .i64 m.op)), (23, fun w' => w'.cell? ⟨w3.heap.size, 0, none⟩ = some (.int .i64 m.id) ∧ w'.cell? ⟨w3.heap.size, 1, none⟩ = some (.bool true) ∧ w'.cell? ⟨w3.heap.size, 2, none⟩ = some (.int .i64 m.op) ∧ w'.cell? ⟨w3.heap.size, 3, none⟩ = some (.bool false) ∧ w'.cell? ⟨w3.heap.size, 4, none⟩ = some (.int .i64 c) ∧ w'.cell? ⟨w3.heap.size, 5, none⟩ = some (.slice (some ⟨rb, ro, none⟩) m.qs.length ycq) ∧ w'.cell? ⟨w3.heap.size, 6, none⟩ = some (.slice ya1 0 yca) ∧ w'.cell? ⟨w3.heap.size, 7, none⟩ = some (.slice yb1 0 ycb) ∧ w'.cell? ⟨w3.heap.size, 8, none⟩ = some (.slice ym1 0 ycm) ∧ w'.cell? ⟨w3.heap.size, 9, none⟩ = some (.slice yp1 0 ycp) ∧ w'.cell? ⟨w3.heap.size, 10, none⟩ = some (.slice yu1 0 ycu)), (28, fun w' => w'.cell? ⟨w3.heap.size, 5, none⟩ = some (.slice (some ⟨rb, ro, none⟩) m.qs.length ycq)), (31, fun w' => w'.cell? ⟨rb, ro, none⟩ = some (.slice ra qq.name.length rc)), (33, fun w' => w'.cell? ⟨w1.heap.size, 5, none⟩ = some (.slice (some ⟨qb, qo, none⟩) m.qs.length xcq)), (36, fun w' => w'.cell? ⟨qb, qo, none⟩ = some (.slice na qq.name.length nc)), (42, fun w' => w'.cell? ⟨w1.heap.size, 6, none⟩ = some (.slice xa m.ans.length xca)), (46, fun w' => w'.cell? ⟨w1.heap.size, 7, none⟩ = some (.slice xb m.aus.length xcb)), (50, fun w' => w'.cell? ⟨w1.heap.size, 8, none⟩ = some (.slice xm m.more.length xcm))] (fun hA => ?_)
      replace hA := UC hA
      go_simp
      generalize hWD : wr.drew = WD at *
      clear hWD
      repeat ((first | (refine VN ?_ (UB hA) rfl rfl rfl (by rfl) (fun _ _ _ h => h) ?_ ?_; rotate_left; · (intro w; go_simp <;> with_reducible rfl)) | refine VM (UB hA) rfl rfl (by rfl) (fun _ _ _ h => h) ?_); go_simp)
      refine takeC ?_ (UB hA) rfl rfl rfl (by rfl) (fun _ _ _ h => h) (.head _) (cells11 (UB KR)).2.1 ?_ ?_; rotate_left; (· (intro w hSw; (try dsimp only at hSw); go_simp <;> with_reducible rfl)); go_simp
      repeat ((first | (refine VN ?_ (UB hA) rfl rfl rfl (by rfl) (fun _ _ _ h => h) ?_ ?_; rotate_left; · (intro w; go_simp <;> with_reducible rfl)) | refine VM (UB hA) rfl rfl (by rfl) (fun _ _ _ h => h) ?_); go_simp)
      refine takeC ?_ (UB hA) rfl rfl rfl (by rfl) (fun _ _ _ h => h) (.tail _ (.head _)) (cells11 (UB KR)).1 ?_ ?_; rotate_left; (· (intro w hSw; (try dsimp only at hSw); go_simp <;> with_reducible rfl)); go_simp
      repeat ((first | (refine VN ?_ (UB hA) rfl rfl rfl (by rfl) (fun _ _ _ h => h) ?_ ?_; rotate_left; · (intro w; go_simp <;> with_reducible rfl)) | refine VM (UB hA) rfl rfl (by rfl) (fun _ _ _ h => h) ?_); go_simp)
      refine takeC ?_ (UB hA) rfl rfl rfl (by rfl) (fun _ _ _ h => h) (.tail _ (.tail _ (.head _))) (cells11 (UB KA)).1 ?_ ?_; rotate_left; (· (intro w hSw; (try dsimp only at hSw); go_simp <;> with_reducible rfl)); go_simp
      repeat ((first | (refine VN ?_ (UB hA) rfl rfl rfl (by rfl) (fun _ _ _ h => h) ?_ ?_; rotate_left; · (intro w; go_simp <;> with_reducible rfl)) | refine VM (UB hA) rfl rfl (by rfl) (fun _ _ _ h => h) ?_); go_simp)
      refine takeC ?_ (UB hA) rfl rfl rfl (by rfl) (fun _ _ _ h => h) (.tail _ (.tail _ (.tail _ (.head _)))) (cells11 (UB KR)).2.2.2.2.1 ?_ ?_; rotate_left; (· (intro w hSw; (try dsimp only at hSw); go_simp <;> with_reducible rfl)); go_simp
      repeat ((first | (refine VN ?_ (UB hA) rfl rfl rfl (by rfl) (fun _ _ _ h => h) ?_ ?_; rotate_left; · (intro w; go_simp <;> with_reducible rfl)) | refine VM (UB hA) rfl rfl (by rfl) (fun _ _ _ h => h) ?_); go_simp)
      refine takeC ?_ (UB hA) rfl rfl rfl (by rfl) (fun _ _ _ h => h) (.tail _ (.tail _ (.tail _ (.tail _ (.head _))))) (cells11 (UB KR)).2.2.1 ?_ ?_; rotate_left; (· (intro w hSw; (try dsimp only at hSw); go_simp <;> with_reducible rfl)); go_simp
      repeat ((first | (refine VN ?_ (UB hA) rfl rfl rfl (by rfl) (fun _ _ _ h => h) ?_ ?_; rotate_left; · (intro w; go_simp <;> with_reducible rfl)) | refine VM (UB hA) rfl rfl (by rfl) (fun _ _ _ h => h) ?_); go_simp)
      refine takeC ?_ (UB hA) rfl rfl rfl (by rfl) (fun _ _ _ h => h) (.tail _ (.tail _ (.tail _ (.tail _ (.tail _ (.head _)))))) (cells11 (UB KA)).2.2.1 ?_ ?_; rotate_left; (· (intro w hSw; (try dsimp only at hSw); go_simp <;> with_reducible rfl)); go_simp
      repeat ((first | (refine VN ?_ (UB hA) rfl rfl rfl (by rfl) (fun _ _ _ h => h) ?_ ?_; rotate_left; · (intro w; go_simp <;> with_reducible rfl)) | refine VM (UB hA) rfl rfl (by rfl) (fun _ _ _ h => h) ?_); go_simp)
      refine takeC ?_ (UB hA) rfl rfl rfl (by rfl) (fun _ _ _ h => h) (.tail _ (.tail _ (.tail _ (.tail _ (.tail _ (.tail _ (.head _))))))) (cells11 (UB KR)) ?_ ?_; rotate_left; (· (intro w hSw; (try dsimp only at hSw); go_simp <;> with_reducible rfl)); go_simp
      repeat ((first | (refine VN ?_ (UB hA) rfl rfl rfl (by rfl) (fun _ _ _ h => h) ?_ ?_; rotate_left; · (intro w; go_simp <;> with_reducible rfl)) | refine VM (UB hA) rfl rfl (by rfl) (fun _ _ _ h => h) ?_); go_simp)
      refine runC (UB hA) rfl rfl (by kernel_rfl) (by kernel_rfl) (fun K hK => ?_)
      have HK := UC hK
      clear hK
      go_simp
      refine (UB HMO _ (UB hy)).mono ?_
      rintro e w7 ⟨rfl, b7⟩
      replace bb := UG bb b7
      replace KA := UC (UE b7 (UB KA))
      replace KR := UC (UE b7 (UB KR))
      replace HX := UC ((UB HX).below b7)
      replace hy := UC ((UB hy).below b7)
      replace HQC := UC ((b7.cell hqb).trans (UB HQC))
      replace HRC := UC ((b7.cell hrb).trans (UB HRC))
      replace HQL := UC ((UB HQL).below b7)
      replace HRL := UC ((UB HRL).below b7)
      clear b7
      clear HMO
      refine (UB HK).out _ _ (VB (by kernel_rfl) (VB (by kernel_rfl) (VB (by kernel_rfl) (VB (by kernel_rfl) (VB (by kernel_rfl) (VB (by kernel_rfl) (VB (by kernel_rfl) (keepC_yes (cells11 (UB KR)).2.2.2.2.2.1 (keepC_yes (UB HRC) (keepC_yes (cells11 (UB KA)).2.2.2.2.2.1 (keepC_yes (UB HQC) (keepC_yes (cells11 (UB KA)).2.2.2.2.2.2.1 (keepC_yes (cells11 (UB KA)).2.2.2.2.2.2.2.1 (keepC_yes (cells11 (UB KA)).2.2.2.2.2.2.2.2.1 VL)))))))))))))) ?_
      clear HK K
      go_simp
      repeat ((first | (refine VN ?_ (UB hA) rfl rfl rfl (by rfl) (fun _ _ _ h => h) ?_ ?_; rotate_left; · (intro w; go_simp <;> with_reducible rfl)) | refine VM (UB hA) rfl rfl (by rfl) (fun _ _ _ h => h) ?_); go_simp)
      refine takeC ?_ (UB hA) rfl rfl rfl (by rfl) (fun _ _ _ h => h) (.tail _ (.tail _ (.tail _ (.tail _ (.tail _ (.tail _ (.tail _ (.head _)))))))) (cells11 (UB KR)).2.2.2.2.2.1 ?_ ?_; rotate_left; (· (intro w hSw; (try dsimp only at hSw); go_simp <;> with_reducible rfl)); go_simp
      repeat ((first | (refine VN ?_ (UB hA) rfl rfl rfl (by rfl) (fun _ _ _ h => h) ?_ ?_; rotate_left; · (intro w; go_simp <;> with_reducible rfl)) | refine VM (UB hA) rfl rfl (by rfl) (fun _ _ _ h => h) ?_); go_simp)
      refine takeC ?_ (UB hA) rfl rfl rfl (by rfl) (fun _ _ _ h => h) (.tail _ (.tail _ (.tail _ (.tail _ (.tail _ (.tail _ (.tail _ (.tail _ (.head _))))))))) (UB HRC) ?_ ?_; rotate_left; (· (intro w hSw; (try dsimp only at hSw); go_simp <;> with_reducible rfl)); go_simp
      repeat ((first | (refine VN ?_ (UB hA) rfl rfl rfl (by rfl) (fun _ _ _ h => h) ?_ ?_; rotate_left; · (intro w; go_simp <;> with_reducible rfl)) | refine VM (UB hA) rfl rfl (by rfl) (fun _ _ _ h => h) ?_); go_simp)
      refine takeC ?_ (UB hA) rfl rfl rfl (by rfl) (fun _ _ _ h => h) (.tail _ (.tail _ (.tail _ (.tail _ (.tail _ (.tail _ (.tail _ (.tail _ (.tail _ (.head _)))))))))) (cells11 (UB KA)).2.2.2.2.2.1 ?_ ?_; rotate_left; (· (intro w hSw; (try dsimp only at hSw); go_simp <;> with_reducible rfl)); go_simp
      repeat ((first | (refine VN ?_ (UB hA) rfl rfl rfl (by rfl) (fun _ _ _ h => h) ?_ ?_; rotate_left; · (intro w; go_simp <;> with_reducible rfl)) | refine VM (UB hA) rfl rfl (by rfl) (fun _ _ _ h => h) ?_); go_simp)
      refine takeC ?_ (UB hA) rfl rfl rfl (by rfl) (fun _ _ _ h => h) (.tail _ (.tail _ (.tail _ (.tail _ (.tail _ (.tail _ (.tail _ (.tail _ (.tail _ (.tail _ (.head _))))))))))) (UB HQC) ?_ ?_; rotate_left; (· (intro w hSw; (try dsimp only at hSw); go_simp <;> with_reducible rfl)); go_simp
      repeat ((first | (refine VN ?_ (UB hA) rfl rfl rfl (by rfl) (fun _ _ _ h => h) ?_ ?_; rotate_left; · (intro w; go_simp <;> with_reducible rfl)) | refine VM (UB hA) rfl rfl (by rfl) (fun _ _ _ h => h) ?_); go_simp)
      refine runC (UB hA) rfl rfl (by kernel_rfl) (by kernel_rfl) (fun K hK => ?_)
      have HK := UC hK
      clear hK
      go_simp
      refine (sameName_has (UB HRL) (UB HQL)).mono ?_
      rw [decide_eq_true rfl]
      rintro e w8 ⟨rfl, b8⟩
      replace bb := UG bb b8
      replace KA := UC (UE b8 (UB KA))
      replace KR := UC (UE b8 (UB KR))
      clear b8 HQC HRC HQL HRL HX hy
      refine (UB HK).out _ _ (VB (by kernel_rfl) (VB (by kernel_rfl) (VB (by kernel_rfl) (VB (by kernel_rfl) (VB (by kernel_rfl) (VB (by kernel_rfl) (VB (by kernel_rfl) (VB (by kernel_rfl) (VB (by kernel_rfl) (VB (by kernel_rfl) (VB (by kernel_rfl) (keepC_yes (cells11 (UB KA)).2.2.2.2.2.2.1 (keepC_yes (cells11 (UB KA)).2.2.2.2.2.2.2.1 (keepC_yes (cells11 (UB KA)).2.2.2.2.2.2.2.2.1 VL)))))))))))))) ?_
      clear HK K
      go_simp
      repeat ((first | (refine VN ?_ (UB hA) rfl rfl rfl (by rfl) (fun _ _ _ h => h) ?_ ?_; rotate_left; · (intro w; go_simp <;> with_reducible rfl)) | refine VM (UB hA) rfl rfl (by rfl) (fun _ _ _ h => h) ?_); go_simp)
      refine takeC ?_ (UB hA) rfl rfl rfl (by rfl) (fun _ _ _ h => h) (.tail _ (.tail _ (.tail _ (.tail _ (.tail _ (.tail _ (.tail _ (.tail _ (.tail _ (.tail _ (.tail _ (.head _)))))))))))) (cells11 (UB KA)).2.2.2.2.2.2.1 ?_ ?_; rotate_left; (· (intro w hSw; (try dsimp only at hSw); go_simp <;> with_reducible rfl)); go_simp
      repeat ((first | (refine VN ?_ (UB hA) rfl rfl rfl (by rfl) (fun _ _ _ h => h) ?_ ?_; rotate_left; · (intro w; go_simp <;> with_reducible rfl)) | refine VM (UB hA) rfl rfl (by rfl) (fun _ _ _ h => h) ?_); go_simp)
      refine takeC ?_ (UB hA) rfl rfl rfl (by rfl) (fun _ _ _ h => h) (.tail _ (.tail _ (.tail _ (.tail _ (.tail _ (.tail _ (.tail _ (.tail _ (.tail _ (.tail _ (.tail _ (.tail _ (.head _))))))))))))) (cells11 (UB KA)).2.2.2.2.2.2.2.1 ?_ ?_; rotate_left; (· (intro w hSw; (try dsimp only at hSw); go_simp <;> with_reducible rfl)); go_simp
      repeat ((first | (refine VN ?_ (UB hA) rfl rfl rfl (by rfl) (fun _ _ _ h => h) ?_ ?_; rotate_left; · (intro w; go_simp <;> with_reducible rfl)) | refine VM (UB hA) rfl rfl (by rfl) (fun _ _ _ h => h) ?_); go_simp)
      refine takeC ?_ (UB hA) rfl rfl rfl (by rfl) (fun _ _ _ h => h) (.tail _ (.tail _ (.tail _ (.tail _ (.tail _ (.tail _ (.tail _ (.tail _ (.tail _ (.tail _ (.tail _ (.tail _ (.tail _ (.head _)))))))))))))) (cells11 (UB KA)).2.2.2.2.2.2.2.2.1 ?_ ?_; rotate_left; (· (intro w hSw; (try dsimp only at hSw); go_simp <;> with_reducible rfl)); go_simp
      repeat ((first | (refine VN ?_ (UB hA) rfl rfl rfl (by rfl) (fun _ _ _ h => h) ?_ ?_; rotate_left; · (intro w; go_simp <;> with_reducible rfl)) | refine VM (UB hA) rfl rfl (by rfl) (fun _ _ _ h => h) ?_); go_simp)
      refine doneC (UB hA) rfl ?_
      clear hA
      have e1 := wrap_small (1 + m.ans.length) (by omega)
      have e2 := wrap_small (1 + m.ans.length + m.aus.length) (by omega)
      have e3 := wrap_small (1 + m.ans.length + m.aus.length + m.more.length) (by omega)
      push_cast at e1 e2 e3
      rw [e1, e2, e3, beq_self_eq_true]
      go_wp2_with fail
      go_ret
      exact ⟨rfl, bb⟩
 ·-- one of the two may not be
  clear HTX h8 HR
  refine (UB HN _ (UB HX) hyes).mono ?_
  rintro e w3 ⟨zq, zcq, za, zca, zb, zcb, zm, zcm, zp, zcp, zu, zcu, rfl, b3⟩
  clear HN
  replace bb := UG bb b3
  replace HT := UC ((UB HT).below b3)
  replace HX := UC ((UB HX).below b3)
  replace KA := UC (UE b3 (UB KA))
  have z3 := b3.size
  clear b3
  have ba := UI (w := w3) (.cells #[.int .i64 0, .bool false, .int .i64 0, .bool false, .int .i64 0, .slice zq 0 zcq, .slice za 0 zca, .slice zb 0 zcb, .slice zm 0 zcm, .slice zp 0 zcp, .slice zu 0 zcu] 27)
  have KR := UC (heap_alloc_new w3 (.cells #[.int .i64 0, .bool false, .int .i64 0, .bool false, .int .i64 0, .slice zq 0 zcq, .slice za 0 zca, .slice zb 0 zcb, .slice zm 0 zcm, .slice zp 0 zcp, .slice zu 0 zcu] 27))
  replace bb := UG bb ba
  replace HT := UC ((UB HT).below ba)
  replace HX := UC ((UB HX).below ba)
  replace KA := UC (UE ba (UB KA))
  have z4 := ba.size
  clear ba
  obtain ⟨KA_0, KA_1, KA_2, KA_3, KA_4, KA_5, KA_6, KA_7, KA_8, KA_9, KA_10⟩ := cells11 (UB KA)
  go_wp2_with fail
  clear KA_0 KA_1 KA_2 KA_3 KA_4 KA_5 KA_6 KA_7 KA_8 KA_9 KA_10
  generalize w3.alloc (.cells #[.int .i64 0, .bool false, .int .i64 0, .bool false, .int .i64 0, .slice zq 0 zcq, .slice za 0 zca, .slice zb 0 zcb, .slice zm 0 zcm, .slice zp 0 zcp, .slice zu 0 zcu] 27) = W2 at *
  refine (UB HS _ (UB HX)).mono ?_
  rintro e w4 ⟨rfl, b4⟩
  replace bb := UG bb b4
  replace HT := UC ((UB HT).below b4)
  replace HX := UC ((UB HX).below b4)
  replace KA := UC (UE b4 (UB KA))
  replace KR := UC (UE b4 (UB KR))
  have z5 := b4.size
  clear b4
  cases hok : okM m
  ·obtain ⟨d0, d1, d2, d3, d4, d5, d6, d7, d8, d9, d10⟩ := cells11 (UB KR)
   go_wp2_with fail
   clear d0 d1 d2 d3 d4 d5 d6 d7 d8 d9 d10
   refine (names_any _).mono ?_
   rintro e w5 ⟨rfl, b5⟩
   replace bb := UG bb b5
   replace HT := UC ((UB HT).below b5)
   replace HX := UC ((UB HX).below b5)
   replace KA := UC (UE b5 (UB KA))
   replace KR := UC (UE b5 (UB KR))
   have z6 := b5.size
   clear b5
   go_wp2_with fail
   go_ret
   exact ⟨rfl, bb⟩
  ·by_cases hn : c < 0
   ·obtain ⟨d0, d1, d2, d3, d4, d5, d6, d7, d8, d9, d10⟩ := cells11 (UB KR)
    go_wp2_with fail
    clear d0 d1 d2 d3 d4 d5 d6 d7 d8 d9 d10
    refine (names_any _).mono ?_
    rintro e w5 ⟨rfl, b5⟩
    replace bb := UG bb b5
    replace HT := UC ((UB HT).below b5)
    replace HX := UC ((UB HX).below b5)
    replace KA := UC (UE b5 (UB KA))
    replace KR := UC (UE b5 (UB KR))
    have z6 := b5.size
    clear b5
    go_wp2_with fail
    go_ret
    exact ⟨rfl, bb⟩
   ·have hn2 : ¬ c ≤ 10 := fun q => hyes ⟨hok, by omega, q⟩
    clear hyes
    obtain ⟨d0, d1, d2, d3, d4, d5, d6, d7, d8, d9, d10⟩ := cells11 (UB KR)
    go_wp2_with fail
    clear d0 d1 d2 d3 d4 d5 d6 d7 d8 d9 d10
    refine (names_any _).mono ?_
    rintro e w5 ⟨rfl, b5⟩
    replace bb := UG bb b5
    replace HT := UC ((UB HT).below b5)
    replace HX := UC ((UB HX).below b5)
    replace KA := UC (UE b5 (UB KA))
    replace KR := UC (UE b5 (UB KR))
    have z6 := b5.size
    clear b5
    go_wp2_with fail
    go_ret
    exact ⟨rfl, bb⟩
end Go.Proofs.YtbabmdiklefgcaaGreatDoor

namespace Go.Proofs.YtbabmdiklefgcaaGreatDoor
open Go.RowKit Go.ChangeShapes Go.WideShapes Go.ChangeAt

theorem ints_lies {H : Type} {enc : TypeId × Value → H} {P : Program} {w : World} {sp : Nat → Bool} {held : Bool} {t e : TypeId} {fuel : Nat} {v : Value} {x : DataW H × List MemPlace}
  (ht : P.underlying t = some (.slice e)) (he : P.underlying e = some (.int .u8)) (hc : P.cellsOf e = 1) (hsp : ∀ b, sp b = true) (h : DataW.trod enc P w 0 sp held fuel t [v] = some x) :
  ∃ (a : Option Addr) (cap : Nat) (l : List Int), v = .slice a l.length cap ∧ l.length ≤ maxLen ∧ Lies w a l ∧ ∀ k, 0 ≤ l.getD k 0 ∧ l.getD k 0 ≤ 255 := by
 have key : ∃ a len cap zs, v = .slice a len cap ∧ IsRow .u8 w a len cap zs := by
  rcases open_ints ht he hc h with ⟨hcs, _⟩ | ⟨x, l, c, zs, hcs, _, hl, hm, hz, _, hcell, hwz⟩
  ·simp at hcs
   exact ⟨none, 0, 0, [], hcs, .inl ⟨rfl, rfl, rfl, rfl⟩⟩
  ·simp at hcs
   exact ⟨some x, l, c, zs, hcs, .inr ⟨_, rfl, hl, hm, by simpa [hsp] using hz, hcell, hwz⟩⟩
 obtain ⟨a, len, cap, zs, rfl, hr⟩ := key
 obtain ⟨l, rfl, hm, hL, hb⟩ := isRow_lies hr
 exact ⟨a, cap, l, rfl, hm, hL, hb⟩

end Go.Proofs.YtbabmdiklefgcaaGreatDoor
