/-
  Contract of the specification's TaskOk, in part. Contract of the specification's TaskOk.
-/
import Derived.Test.YtjgfljndeolmoaaGreatLostG35
namespace Go.Proofs.YtjgfljndeolmoaaGreat
open Go.RowKit
set_option linter.unusedVariables false

set_option maxHeartbeats 8000000 in
set_option maxRecDepth 100000 in
theorem specTaskOk_C {vf vn vz vh vr va : Value} {t : Tk} {w : World} (h : HasTk w vf vn vz vh vr va t) (hs1 : t.hints.length ≤ 1048576) (hs2 : t.servers.length ≤ 1048576) (e0 : ¬ t.state < 0) (e1 : ¬ 1 < t.state) (e2 : ¬ t.id < 0) (e3 : ¬ 65535 < t.id) (hGq : (nameOk t.fst.name && typeOk t.fst.type) = true) (hGn : nameOk t.name = true) (hGz : nameOk t.zone = true) (hGh : serversB t.hints = true) (hGr : serversB t.servers = true) :
  Calls Tryz.prog 39 #[.agg #[.int .i64 t.state, .int .i64 t.id, vf, .int .i64 t.fst.type, vn, vz, vh, vr, .int .i64 t.turn, .int .i64 t.sends, .int .i64 t.steps, .int .i64 t.code, va]] w fun e w' => e = .returned (.bool (taskOk t)) ∧ Below w.heap.size w w' := by
 obtain ⟨xf, yf, rfl, _⟩ := h.fst.form
 obtain ⟨xn, yn, rfl, _⟩ := h.name.form
 obtain ⟨xz, yz, rfl, _⟩ := h.zone.form
 obtain ⟨xh, yh, rfl, _⟩ := h.hints.form
 obtain ⟨xr, yr, rfl, _⟩ := h.servers.form
 obtain ⟨xa, ya, rfl, _⟩ := h.ans.form
 have b0 := below_alloc (w := w) (.cells #[.int .i64 t.state, .int .i64 t.id, .slice xf t.fst.name.length yf, .int .i64 t.fst.type, .slice xn t.name.length yn, .slice xz t.zone.length yz, .slice xh t.hints.length yh, .slice xr t.servers.length yr, .int .i64 t.turn, .int .i64 t.sends, .int .i64 t.steps, .int .i64 t.code, .slice xa t.ans.length ya] 61)
 have KK := hide (heap_alloc_new w (.cells #[.int .i64 t.state, .int .i64 t.id, .slice xf t.fst.name.length yf, .int .i64 t.fst.type, .slice xn t.name.length yn, .slice xz t.zone.length yz, .slice xh t.hints.length yh, .slice xr t.servers.length yr, .int .i64 t.turn, .int .i64 t.sends, .int .i64 t.steps, .int .i64 t.code, .slice xa t.ans.length ya] 61))
 have H := hide (h.below b0)
 generalize hR : taskOk t = R
 have HR := hide hR
 have Uq := fun (w : World) (v : Value) (h : HasL w v t.fst.name) => l11question_has h
 have Un := fun (w : World) (v : Value) (h : HasL w v t.name) => specNameOk_has h
 have Un2 := fun (w : World) (v : Value) (h : HasL w v t.zone) => specNameOk_has h
 have Uh := fun (w : World) (v : Value) (h : HasI w v t.hints) => l11ips_has h hs1
 have Ur := fun (w : World) (v : Value) (h : HasI w v t.servers) => l11ips_has h hs2
 have Ua := fun (w : World) (v : Value) (h : HasRs w v t.ans) => l4rrs_has h
 rw [hGq] at Uq
 rw [hGn] at Un
 rw [hGz] at Un2
 rw [hGh] at Uh
 rw [hGr] at Ur
 generalize hGa : rrsOk t.ans = Ga at Ua
 replace Uq := hide Uq
 replace Un := hide Un
 replace Un2 := hide Un2
 replace Uh := hide Uh
 replace Ur := hide Ur
 replace Ua := hide Ua
 clear hR h
 go_enter Tryz.func39, Tryz.ntmps39
 obtain ⟨d0, d1, d2, d3, d4, d5, d6, d7, d8, d9, d10, d11, d12⟩ := cells13 (unhide KK)
 go_wp2_with fail
 clear d0 d1 d2 d3 d4 d5 d6 d7 d8 d9 d10 d11 d12
 refine (unhide Uq _ _ (unhide H).fst).mono ?_
 rintro e w1 ⟨rfl, b1⟩
 replace b0 := below_next b0 b1
 replace H := hide ((unhide H).below b1)
 replace KK := hide (block_kept b1 (unhide KK))
 clear b1
 obtain ⟨d0, d1, d2, d3, d4, d5, d6, d7, d8, d9, d10, d11, d12⟩ := cells13 (unhide KK)
 go_wp2_with fail
 clear d0 d1 d2 d3 d4 d5 d6 d7 d8 d9 d10 d11 d12
 refine (unhide Un _ _ (unhide H).name).mono ?_
 rintro e w1 ⟨rfl, b1⟩
 replace b0 := below_next b0 b1
 replace H := hide ((unhide H).below b1)
 replace KK := hide (block_kept b1 (unhide KK))
 clear b1
 obtain ⟨d0, d1, d2, d3, d4, d5, d6, d7, d8, d9, d10, d11, d12⟩ := cells13 (unhide KK)
 go_wp2_with fail
 clear d0 d1 d2 d3 d4 d5 d6 d7 d8 d9 d10 d11 d12
 refine (unhide Un2 _ _ (unhide H).zone).mono ?_
 rintro e w1 ⟨rfl, b1⟩
 replace b0 := below_next b0 b1
 replace H := hide ((unhide H).below b1)
 replace KK := hide (block_kept b1 (unhide KK))
 clear b1
 obtain ⟨d0, d1, d2, d3, d4, d5, d6, d7, d8, d9, d10, d11, d12⟩ := cells13 (unhide KK)
 go_wp2_with fail
 clear d0 d1 d2 d3 d4 d5 d6 d7 d8 d9 d10 d11 d12
 refine (unhide Uh _ _ (unhide H).hints).mono ?_
 rintro e w1 ⟨rfl, rfl⟩
 obtain ⟨d0, d1, d2, d3, d4, d5, d6, d7, d8, d9, d10, d11, d12⟩ := cells13 (unhide KK)
 go_wp2_with fail
 clear d0 d1 d2 d3 d4 d5 d6 d7 d8 d9 d10 d11 d12
 refine (unhide Ur _ _ (unhide H).servers).mono ?_
 rintro e w1 ⟨rfl, rfl⟩
 by_cases e9 : t.turn < 0
 ·have hR : R = false := by
   rw [← unhide HR, Bool.eq_false_iff]
   intro q
   obtain ⟨p, p1, p2, p3, p4, p5, p6, p7, p8⟩ := taskOk_iff.1 q
   omega
  subst hR
  clear HR
  obtain ⟨d0, d1, d2, d3, d4, d5, d6, d7, d8, d9, d10, d11, d12⟩ := cells13 (unhide KK)
  go_wp2_with fail
  go_ret
  exact ⟨rfl, b0⟩
 by_cases e10 : (t.servers.length : Int) ≤ t.turn
 ·have hR : R = false := by
   rw [← unhide HR, Bool.eq_false_iff]
   intro q
   obtain ⟨p, p1, p2, p3, p4, p5, p6, p7, p8⟩ := taskOk_iff.1 q
   omega
  subst hR
  clear HR
  obtain ⟨d0, d1, d2, d3, d4, d5, d6, d7, d8, d9, d10, d11, d12⟩ := cells13 (unhide KK)
  go_wp2_with fail
  go_ret
  exact ⟨rfl, b0⟩
 by_cases e11 : t.sends < 0
 ·have hR : R = false := by
   rw [← unhide HR, Bool.eq_false_iff]
   intro q
   obtain ⟨p, p1, p2, p3, p4, p5, p6, p7, p8⟩ := taskOk_iff.1 q
   omega
  subst hR
  clear HR
  obtain ⟨d0, d1, d2, d3, d4, d5, d6, d7, d8, d9, d10, d11, d12⟩ := cells13 (unhide KK)
  go_wp2_with fail
  go_ret
  exact ⟨rfl, b0⟩
 by_cases e12 : 12 < t.sends
 ·have hR : R = false := by
   rw [← unhide HR, Bool.eq_false_iff]
   intro q
   obtain ⟨p, p1, p2, p3, p4, p5, p6, p7, p8⟩ := taskOk_iff.1 q
   omega
  subst hR
  clear HR
  obtain ⟨d0, d1, d2, d3, d4, d5, d6, d7, d8, d9, d10, d11, d12⟩ := cells13 (unhide KK)
  go_wp2_with fail
  go_ret
  exact ⟨rfl, b0⟩
 by_cases e13 : t.steps < 0
 ·have hR : R = false := by
   rw [← unhide HR, Bool.eq_false_iff]
   intro q
   obtain ⟨p, p1, p2, p3, p4, p5, p6, p7, p8⟩ := taskOk_iff.1 q
   omega
  subst hR
  clear HR
  obtain ⟨d0, d1, d2, d3, d4, d5, d6, d7, d8, d9, d10, d11, d12⟩ := cells13 (unhide KK)
  go_wp2_with fail
  go_ret
  exact ⟨rfl, b0⟩
 by_cases e14 : 6 < t.steps
 ·have hR : R = false := by
   rw [← unhide HR, Bool.eq_false_iff]
   intro q
   obtain ⟨p, p1, p2, p3, p4, p5, p6, p7, p8⟩ := taskOk_iff.1 q
   omega
  subst hR
  clear HR
  obtain ⟨d0, d1, d2, d3, d4, d5, d6, d7, d8, d9, d10, d11, d12⟩ := cells13 (unhide KK)
  go_wp2_with fail
  go_ret
  exact ⟨rfl, b0⟩
 by_cases e15 : t.code < 0
 ·have hR : R = false := by
   rw [← unhide HR, Bool.eq_false_iff]
   intro q
   obtain ⟨p, p1, p2, p3, p4, p5, p6, p7, p8⟩ := taskOk_iff.1 q
   omega
  subst hR
  clear HR
  obtain ⟨d0, d1, d2, d3, d4, d5, d6, d7, d8, d9, d10, d11, d12⟩ := cells13 (unhide KK)
  go_wp2_with fail
  go_ret
  exact ⟨rfl, b0⟩
 by_cases e16 : 10 < t.code
 ·have hR : R = false := by
   rw [← unhide HR, Bool.eq_false_iff]
   intro q
   obtain ⟨p, p1, p2, p3, p4, p5, p6, p7, p8⟩ := taskOk_iff.1 q
   omega
  subst hR
  clear HR
  obtain ⟨d0, d1, d2, d3, d4, d5, d6, d7, d8, d9, d10, d11, d12⟩ := cells13 (unhide KK)
  go_wp2_with fail
  go_ret
  exact ⟨rfl, b0⟩
 obtain ⟨d0, d1, d2, d3, d4, d5, d6, d7, d8, d9, d10, d11, d12⟩ := cells13 (unhide KK)
 go_wp2_with fail
 clear d0 d1 d2 d3 d4 d5 d6 d7 d8 d9 d10 d11 d12
 refine (unhide Ua _ _ (unhide H).ans).mono ?_
 rintro e w1 ⟨rfl, b1⟩
 replace b0 := below_next b0 b1
 replace H := hide ((unhide H).below b1)
 replace KK := hide (block_kept b1 (unhide KK))
 clear b1
 cases Ga with
 | false =>
  have hR : R = false := by
   rw [← unhide HR, Bool.eq_false_iff]
   intro q
   obtain ⟨p, p1, p2, p3, p4, p5, p6, p7, p8⟩ := taskOk_iff.1 q
   rw [hGa] at p7; cases p7
  subst hR
  clear HR
  obtain ⟨d0, d1, d2, d3, d4, d5, d6, d7, d8, d9, d10, d11, d12⟩ := cells13 (unhide KK)
  go_wp2_with fail
  go_ret
  exact ⟨rfl, b0⟩
 | true =>
  have Uu := hide (fun (w : World) (v u : Value) (h : HasL w v t.name) (h' : HasL w u t.zone) => l2under_has h h' (nameOk_parts hGn).1 (nameOk_parts hGz).1)
  generalize hGu : endsWith t.name t.zone = Gu at *
  obtain ⟨d0, d1, d2, d3, d4, d5, d6, d7, d8, d9, d10, d11, d12⟩ := cells13 (unhide KK)
  go_wp2_with fail
  clear d0 d1 d2 d3 d4 d5 d6 d7 d8 d9 d10 d11 d12
  refine (unhide Uu _ _ _ (unhide H).name (unhide H).zone).mono ?_
  rintro e w1 ⟨rfl, b1⟩
  replace b0 := below_next b0 b1
  replace H := hide ((unhide H).below b1)
  replace KK := hide (block_kept b1 (unhide KK))
  clear b1
  cases Gu with
  | false =>
   have hR : R = false := by
    rw [← unhide HR, Bool.eq_false_iff]
    intro q
    obtain ⟨p, p1, p2, p3, p4, p5, p6, p7, p8⟩ := taskOk_iff.1 q
    rw [hGu] at p8; cases p8
   subst hR
   clear HR
   obtain ⟨d0, d1, d2, d3, d4, d5, d6, d7, d8, d9, d10, d11, d12⟩ := cells13 (unhide KK)
   go_wp2_with fail
   go_ret
   exact ⟨rfl, b0⟩
  | true =>
   by_cases f0 : t.state = 1
   ·have g0 : (t.state == 1) = true := by rw [f0]; rfl
    have hR : R = true := by
     rw [← unhide HR, taskOk_iff]
     have hq := Bool.and_eq_true_iff.1 hGq
     exact ⟨by omega, hq.1, hq.2, hGn, hGz, hGh, hGr, hGa, hGu⟩
    subst hR
    clear HR
    obtain ⟨d0, d1, d2, d3, d4, d5, d6, d7, d8, d9, d10, d11, d12⟩ := cells13 (unhide KK)
    go_wp2_with fail
    go_ret
    exact ⟨rfl, b0⟩
   ·have g0 : (t.state == 1) = false := by rw [beq_eq_false_iff_ne]; exact f0
    by_cases f1 : t.code = 0
    rotate_left
    ·have g1 : (t.code == 0) = false := by rw [beq_eq_false_iff_ne]; exact f1
     have hR : R = false := by
      rw [← unhide HR, Bool.eq_false_iff]
      intro q
      obtain ⟨p, p1, p2, p3, p4, p5, p6, p7, p8⟩ := taskOk_iff.1 q
      omega
     subst hR
     clear HR
     obtain ⟨d0, d1, d2, d3, d4, d5, d6, d7, d8, d9, d10, d11, d12⟩ := cells13 (unhide KK)
     go_wp2_with fail
     go_ret
     exact ⟨rfl, b0⟩
    have g1 : (t.code == 0) = true := by rw [f1]; rfl
    by_cases f2 : t.sends < 12
    rotate_left
    ·have n2 : decide (t.sends < 12) = false := decide_eq_false f2
     have hR : R = false := by
      rw [← unhide HR, Bool.eq_false_iff]
      intro q
      obtain ⟨p, p1, p2, p3, p4, p5, p6, p7, p8⟩ := taskOk_iff.1 q
      omega
     subst hR
     clear HR
     obtain ⟨d0, d1, d2, d3, d4, d5, d6, d7, d8, d9, d10, d11, d12⟩ := cells13 (unhide KK)
     go_wp2_with fail
     go_ret
     exact ⟨rfl, b0⟩
    by_cases f3 : t.steps < 6
    rotate_left
    ·have n3 : decide (t.steps < 6) = false := decide_eq_false f3
     have hR : R = false := by
      rw [← unhide HR, Bool.eq_false_iff]
      intro q
      obtain ⟨p, p1, p2, p3, p4, p5, p6, p7, p8⟩ := taskOk_iff.1 q
      omega
     subst hR
     clear HR
     obtain ⟨d0, d1, d2, d3, d4, d5, d6, d7, d8, d9, d10, d11, d12⟩ := cells13 (unhide KK)
     go_wp2_with fail
     go_ret
     exact ⟨rfl, b0⟩
    have hR : R = true := by
     rw [← unhide HR, taskOk_iff]
     have hq := Bool.and_eq_true_iff.1 hGq
     exact ⟨by omega, hq.1, hq.2, hGn, hGz, hGh, hGr, hGa, hGu⟩
    subst hR
    clear HR
    obtain ⟨d0, d1, d2, d3, d4, d5, d6, d7, d8, d9, d10, d11, d12⟩ := cells13 (unhide KK)
    go_wp2_with fail
    go_ret
    exact ⟨rfl, b0⟩
end Go.Proofs.YtjgfljndeolmoaaGreat

namespace Go.Proofs.YtjgfljndeolmoaaGreat
open Go.RowKit
set_option linter.unusedVariables false

theorem specTaskOk_has {vf vn vz vh vr va : Value} {t : Tk} {w : World} (h : HasTk w vf vn vz vh vr va t) (hs1 : t.hints.length ≤ 1048576) (hs2 : t.servers.length ≤ 1048576) :
  Calls Tryz.prog 39 #[.agg #[.int .i64 t.state, .int .i64 t.id, vf, .int .i64 t.fst.type, vn, vz, vh, vr, .int .i64 t.turn, .int .i64 t.sends, .int .i64 t.steps, .int .i64 t.code, va]] w fun e w' => e = .returned (.bool (taskOk t)) ∧ Below w.heap.size w w' := by
 by_cases hA : t.state < 0 ∨ 1 < t.state ∨ t.id < 0 ∨ 65535 < t.id
 ·exact specTaskOk_A h hs1 hs2 hA
 ·cases hB : ((nameOk t.fst.name && typeOk t.fst.type) && (nameOk t.name && (nameOk t.zone && (serversB t.hints && serversB t.servers)))) with
  | false => exact specTaskOk_B h hs1 hs2 (by omega) (by omega) (by omega) (by omega) hB
  | true =>
   rw [Bool.and_eq_true, Bool.and_eq_true (nameOk t.name), Bool.and_eq_true (nameOk t.zone), Bool.and_eq_true (serversB t.hints)] at hB
   exact specTaskOk_C h hs1 hs2 (by omega) (by omega) (by omega) (by omega) hB.1 hB.2.1 hB.2.2.1 hB.2.2.2.1 hB.2.2.2.2
end Go.Proofs.YtjgfljndeolmoaaGreat
