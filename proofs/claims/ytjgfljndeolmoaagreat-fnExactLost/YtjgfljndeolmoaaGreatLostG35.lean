/-
  Contract of the specification's l4rrs. Contracts of the specification's l11ips and l11question. Contract of the specification's TaskOk, in part. Contract of the specification's TaskOk, in part.
-/
import Derived.Test.YtjgfljndeolmoaaGreatLostG17
import Derived.Test.YtjgfljndeolmoaaGreatLostG34
import Derived.Test.YtjgfljndeolmoaaGreatLostG31
import Derived.Test.YtjgfljndeolmoaaGreatLostG32
import Derived.Test.YtjgfljndeolmoaaGreatLostG11
import Derived.Test.YtjgfljndeolmoaaGreatLostG13
namespace Go.Proofs.YtjgfljndeolmoaaGreat
open Go.RowKit
set_option linter.unusedVariables false

set_option maxHeartbeats 1000000 in
set_option maxRecDepth 100000 in
theorem l4rrs_has {v : Value} {l : List Rec} {w : World} (h : HasRs w v l) :
  Calls Tryz.prog 89 #[v] w fun e w' => e = .returned (.bool (rrsOk l)) ∧ Below w.heap.size w w' := by
 obtain ⟨a, cap, rfl, hl, hm⟩ := h.form
 unfold rrsOk maxLen at *
 have HA := hide (all_of (p := rrOk) l recZ)
 have HB := hide (fun k (hk : k < l.length) (hp : rrOk (l.getD k recZ) = false) => all_not (p := rrOk) l recZ hk hp)
 by_cases h12 : l.length ≤ 12
 ·rw [decide_eq_true h12, Bool.true_and]
  generalize l.all rrOk = R at *
  generalize hn : l.length = m at *
  have HN := hide hn
  have H := hide h
  clear hn h
  go_enter Tryz.func89, Tryz.ntmps89
  go_wp2
  go_loopw [3] (fun i wr => ∃ k : Nat, k ≤ m ∧ i = .int .i64 k ∧ Hid (∀ j, j < k → rrOk (l.getD j recZ) = true) ∧ Below w.heap.size w wr) (fun i _ => m - (intOf i).toNat)
  case atStart => exact ⟨0, Nat.zero_le _, rfl, hide (fun j hj => absurd hj (Nat.not_lt_zero _)), Below.refl _ _⟩
  case round =>
   obtain ⟨k, hk, rfl, hall, hb⟩ := hrel
   by_cases hlt : k < m
   ·obtain ⟨b, off, na, nc, ta, tc, xa, xc, ia, ic, rfl, hbl, hc, hu⟩ := ((unhide H).below hb).here (k := k) (by rw [unhide HN]; exact hlt)
    have hbk := unhide HB k hlt
    have HBK := hide hbk
    have hone := hide (fun (hs : rrOk (l.getD k recZ) = true) => (show ∀ j, j < k + 1 → rrOk (l.getD j recZ) = true from fun j hj => by
      by_cases e : j = k
      ·subst e; exact hs
      ·exact unhide hall j (by omega)))
    clear hbk
    generalize l.getD k recZ = rk at *
    have HC := hide (specRrOk_has hu)
    obtain ⟨c0, c1, c2, c3, c4, c5, c6⟩ := range7 hc
    clear hc hu
    cases hp : rrOk rk with
    | true =>
     have HC' := unhide HC
     rw [show rrOk rk = true from hp] at HC'
     replace HC := hide HC'
     clear HC'
     go_wp2_with fail
     refine (unhide HC).mono ?_
     rintro e w1 ⟨rfl, b1⟩
     clear c0 c1 c2 c3 c4 c5 c6
     have b2 := below_next hb b1
     clear b1
     go_wp2_with fail
     exact ⟨⟨k + 1, by omega, by go_num, hide (unhide hone hp), b2⟩, by simp [intOf]; omega⟩
    | false =>
     have HC' := unhide HC
     rw [show rrOk rk = false from hp] at HC'
     replace HC := hide HC'
     clear HC'
     have hR := unhide HBK hp
     subst hR
     go_wp2_with fail
     refine (unhide HC).mono ?_
     rintro e w1 ⟨rfl, b1⟩
     clear c0 c1 c2 c3 c4 c5 c6
     have b2 := below_next hb b1
     clear b1
     go_wp2_with fail
     go_ret
     exact ⟨rfl, b2⟩
   ·obtain rfl : k = m := by omega
    have hR := unhide HA (unhide hall)
    subst hR
    go_wp2
    go_ret
    exact ⟨rfl, hb⟩
 ·rw [decide_eq_false h12, Bool.false_and]
  clear HA HB h
  generalize l.length = m at *
  go_enter Tryz.func89, Tryz.ntmps89
  go_wp2
  go_ret
  exact ⟨rfl, Below.refl _ _⟩
end Go.Proofs.YtjgfljndeolmoaaGreat

namespace Go.Proofs.YtjgfljndeolmoaaGreat
open Go.RowKit
set_option linter.unusedVariables false

set_option maxHeartbeats 1000000 in
set_option maxRecDepth 100000 in
theorem l11ips_has {v : Value} {l : List Int} {w : World} (h : HasI w v l) (hl : l.length ≤ 1048576) :
  Calls Tryz.prog 88 #[v] w fun e w' => e = .returned (.bool (serversB l)) ∧ w = w' := by
 obtain ⟨a, cap, rfl, hL⟩ := h.form
 generalize hR : serversB l = R
 unfold serversB at hR
 generalize hn : l.length = n at *
 have HN := hide hn
 clear hn h
 by_cases h1 : 1 ≤ n
 rotate_left
 ·rw [decide_eq_false h1, Bool.false_and] at hR
  subst hR
  go_enter Tryz.func88, Tryz.ntmps88
  go_wp2
  go_ret
  exact ⟨rfl, rfl⟩
 by_cases h4 : n ≤ 4
 rotate_left
 ·rw [decide_eq_true h1, decide_eq_false h4, Bool.false_and, Bool.and_false] at hR
  subst hR
  go_enter Tryz.func88, Tryz.ntmps88
  go_wp2
  go_ret
  exact ⟨rfl, rfl⟩
 rw [decide_eq_true h1, decide_eq_true h4, Bool.true_and, Bool.true_and] at hR
 have HR := hide hR
 clear hR
 go_enter Tryz.func88, Tryz.ntmps88
 go_wp2
 go_loopw [3] (fun i wr => ∃ k : Nat, k ≤ n ∧ i = .int .i64 k ∧ (∀ j, j < k → 0 ≤ l.getD j 0 ∧ l.getD j 0 ≤ 4294967295) ∧ wr = w) (fun i _ => n - (intOf i).toNat)
 case atStart => exact ⟨0, Nat.zero_le _, rfl, fun j hj => absurd hj (Nat.not_lt_zero _), rfl⟩
 case round =>
  obtain ⟨k, hk, rfl, hall, rfl⟩ := hrel
  have HA := hide hall
  clear hall
  by_cases hlt : k < n
  ·obtain ⟨b, off, rfl, hbl, hc⟩ := hL.here (k := k) (by rw [unhide HN]; exact hlt)
   generalize hx : l.getD k 0 = x at *
   have HX := hide hx
   clear hx
   by_cases hx0 : x < 0
   ·have hR : R = false := by rw [← unhide HR]; exact ipsB_no (k := k) (by rw [unhide HN]; exact hlt) (by rw [unhide HX]; omega)
    subst hR
    go_wp2
    go_ret
    exact ⟨rfl, rfl⟩
   ·by_cases hx1 : 4294967296 ≤ x
    ·have hR : R = false := by rw [← unhide HR]; exact ipsB_no (k := k) (by rw [unhide HN]; exact hlt) (by rw [unhide HX]; omega)
     subst hR
     go_wp2
     go_ret
     exact ⟨rfl, rfl⟩
    ·have HA2 := hide (show ∀ j, j < k + 1 → 0 ≤ l.getD j 0 ∧ l.getD j 0 ≤ 4294967295 from fun j hj => by
      by_cases e : j = k
      ·subst e; rw [unhide HX]; omega
      ·exact unhide HA j (by omega))
     go_wp2
     exact ⟨⟨k + 1, by omega, by go_num, unhide HA2, (by first | rfl | trivial)⟩, by simp [intOf]; omega⟩
  ·obtain rfl : k = n := by omega
   have hR : R = true := by rw [← unhide HR]; exact ipsB_yes (fun j hj => unhide HA j (by rw [unhide HN] at hj; exact hj))
   subst hR
   go_wp2
   go_ret
   exact ⟨rfl, rfl⟩

set_option maxHeartbeats 1000000 in
set_option maxRecDepth 100000 in
theorem l11question_has {v : Value} {q : Que} {w : World} (h : HasL w v q.name) :
  Calls Tryz.prog 86 #[.agg #[v, .int .i64 q.type]] w fun e w' => e = .returned (.bool (nameOk q.name && typeOk q.type)) ∧ Below w.heap.size w w' := by
 obtain ⟨a, cap, rfl, _⟩ := h.form
 have b0 := below_alloc (w := w) (.cells #[.slice a q.name.length cap, .int .i64 q.type] 59)
 have KK := hide (heap_alloc_new w (.cells #[.slice a q.name.length cap, .int .i64 q.type] 59))
 have HN := specNameOk_has (h.below b0)
 have HT := hide (fun w => specTypeOk_any q.type w)
 clear h
 generalize nameOk q.name = G1 at *
 generalize typeOk q.type = G2 at *
 replace HN := hide HN
 obtain ⟨c0, c1⟩ := cells2 (unhide KK)
 go_enter Tryz.func86, Tryz.ntmps86
 go_wp2_with fail
 clear c0 c1
 refine (unhide HN).mono ?_
 rintro e w1 ⟨rfl, b1⟩
 replace KK := hide (block_kept b1 (unhide KK))
 replace b0 := below_next b0 b1
 clear b1 HN
 obtain ⟨c0, c1⟩ := cells2 (unhide KK)
 cases G1 with
 | false =>
  go_wp2_with fail
  go_ret
  exact ⟨rfl, b0⟩
 | true =>
  go_wp2_with fail
  refine (unhide HT _).mono ?_
  rintro e w2 ⟨rfl, rfl⟩
  go_wp2_with fail
  go_ret
  exact ⟨rfl, b0⟩
end Go.Proofs.YtjgfljndeolmoaaGreat

namespace Go.Proofs.YtjgfljndeolmoaaGreat
open Go.RowKit
set_option linter.unusedVariables false

set_option maxHeartbeats 8000000 in
set_option maxRecDepth 100000 in
theorem specTaskOk_A {vf vn vz vh vr va : Value} {t : Tk} {w : World} (h : HasTk w vf vn vz vh vr va t) (hs1 : t.hints.length ≤ 1048576) (hs2 : t.servers.length ≤ 1048576) (hA : t.state < 0 ∨ 1 < t.state ∨ t.id < 0 ∨ 65535 < t.id) :
  Calls Tryz.prog 39 #[.agg #[.int .i64 t.state, .int .i64 t.id, vf, .int .i64 t.fst.type, vn, vz, vh, vr, .int .i64 t.turn, .int .i64 t.sends, .int .i64 t.steps, .int .i64 t.code, va]] w fun e w' => e = .returned (.bool (taskOk t)) ∧ Below w.heap.size w w' := by
 obtain ⟨xf, yf, rfl, _⟩ := h.fst.form
 obtain ⟨xn, yn, rfl, _⟩ := h.name.form
 obtain ⟨xz, yz, rfl, _⟩ := h.zone.form
 obtain ⟨xh, yh, rfl, _⟩ := h.hints.form
 obtain ⟨xr, yr, rfl, _⟩ := h.servers.form
 obtain ⟨xa, ya, rfl, _⟩ := h.ans.form
 have b0 := below_alloc (w := w) (.cells #[.int .i64 t.state, .int .i64 t.id, .slice xf t.fst.name.length yf, .int .i64 t.fst.type, .slice xn t.name.length yn, .slice xz t.zone.length yz, .slice xh t.hints.length yh, .slice xr t.servers.length yr, .int .i64 t.turn, .int .i64 t.sends, .int .i64 t.steps, .int .i64 t.code, .slice xa t.ans.length ya] 61)
 have KK := hide (heap_alloc_new w (.cells #[.int .i64 t.state, .int .i64 t.id, .slice xf t.fst.name.length yf, .int .i64 t.fst.type, .slice xn t.name.length yn, .slice xz t.zone.length yz, .slice xh t.hints.length yh, .slice xr t.servers.length yr, .int .i64 t.turn, .int .i64 t.sends, .int .i64 t.steps, .int .i64 t.code, .slice xa t.ans.length ya] 61))
 have H := hide (h.below b0)
 generalize hR : taskOk t = R
 have HR := hide hR
 have Uq := fun (w : World) (v : Value) (h : HasL w v t.fst.name) => l11question_has h
 have Un := fun (w : World) (v : Value) (h : HasL w v t.name) => specNameOk_has h
 have Un2 := fun (w : World) (v : Value) (h : HasL w v t.zone) => specNameOk_has h
 have Uh := fun (w : World) (v : Value) (h : HasI w v t.hints) => l11ips_has h hs1
 have Ur := fun (w : World) (v : Value) (h : HasI w v t.servers) => l11ips_has h hs2
 have Ua := fun (w : World) (v : Value) (h : HasRs w v t.ans) => l4rrs_has h
 replace Uq := hide Uq
 replace Un := hide Un
 replace Un2 := hide Un2
 replace Uh := hide Uh
 replace Ur := hide Ur
 replace Ua := hide Ua
 clear hR h
 go_enter Tryz.func39, Tryz.ntmps39
 by_cases e0 : t.state < 0
 ·have hR : R = false := by
   rw [← unhide HR, Bool.eq_false_iff]
   intro q
   obtain ⟨p, p1, p2, p3, p4, p5, p6, p7, p8⟩ := taskOk_iff.1 q
   omega
  subst hR
  clear HR
  obtain ⟨d0, d1, d2, d3, d4, d5, d6, d7, d8, d9, d10, d11, d12⟩ := cells13 (unhide KK)
  go_wp2_with fail
  go_ret
  exact ⟨rfl, b0⟩
 by_cases e1 : 1 < t.state
 ·have hR : R = false := by
   rw [← unhide HR, Bool.eq_false_iff]
   intro q
   obtain ⟨p, p1, p2, p3, p4, p5, p6, p7, p8⟩ := taskOk_iff.1 q
   omega
  subst hR
  clear HR
  obtain ⟨d0, d1, d2, d3, d4, d5, d6, d7, d8, d9, d10, d11, d12⟩ := cells13 (unhide KK)
  go_wp2_with fail
  go_ret
  exact ⟨rfl, b0⟩
 by_cases e2 : t.id < 0
 ·have hR : R = false := by
   rw [← unhide HR, Bool.eq_false_iff]
   intro q
   obtain ⟨p, p1, p2, p3, p4, p5, p6, p7, p8⟩ := taskOk_iff.1 q
   omega
  subst hR
  clear HR
  obtain ⟨d0, d1, d2, d3, d4, d5, d6, d7, d8, d9, d10, d11, d12⟩ := cells13 (unhide KK)
  go_wp2_with fail
  go_ret
  exact ⟨rfl, b0⟩
 by_cases e3 : 65535 < t.id
 ·have hR : R = false := by
   rw [← unhide HR, Bool.eq_false_iff]
   intro q
   obtain ⟨p, p1, p2, p3, p4, p5, p6, p7, p8⟩ := taskOk_iff.1 q
   omega
  subst hR
  clear HR
  obtain ⟨d0, d1, d2, d3, d4, d5, d6, d7, d8, d9, d10, d11, d12⟩ := cells13 (unhide KK)
  go_wp2_with fail
  go_ret
  exact ⟨rfl, b0⟩
 omega
end Go.Proofs.YtjgfljndeolmoaaGreat

namespace Go.Proofs.YtjgfljndeolmoaaGreat
open Go.RowKit
set_option linter.unusedVariables false

set_option maxHeartbeats 8000000 in
set_option maxRecDepth 100000 in
theorem specTaskOk_B {vf vn vz vh vr va : Value} {t : Tk} {w : World} (h : HasTk w vf vn vz vh vr va t) (hs1 : t.hints.length ≤ 1048576) (hs2 : t.servers.length ≤ 1048576) (e0 : ¬ t.state < 0) (e1 : ¬ 1 < t.state) (e2 : ¬ t.id < 0) (e3 : ¬ 65535 < t.id) (hB : ((nameOk t.fst.name && typeOk t.fst.type) && (nameOk t.name && (nameOk t.zone && (serversB t.hints && serversB t.servers)))) = false) :
  Calls Tryz.prog 39 #[.agg #[.int .i64 t.state, .int .i64 t.id, vf, .int .i64 t.fst.type, vn, vz, vh, vr, .int .i64 t.turn, .int .i64 t.sends, .int .i64 t.steps, .int .i64 t.code, va]] w fun e w' => e = .returned (.bool (taskOk t)) ∧ Below w.heap.size w w' := by
 obtain ⟨xf, yf, rfl, _⟩ := h.fst.form
 obtain ⟨xn, yn, rfl, _⟩ := h.name.form
 obtain ⟨xz, yz, rfl, _⟩ := h.zone.form
 obtain ⟨xh, yh, rfl, _⟩ := h.hints.form
 obtain ⟨xr, yr, rfl, _⟩ := h.servers.form
 obtain ⟨xa, ya, rfl, _⟩ := h.ans.form
 have b0 := below_alloc (w := w) (.cells #[.int .i64 t.state, .int .i64 t.id, .slice xf t.fst.name.length yf, .int .i64 t.fst.type, .slice xn t.name.length yn, .slice xz t.zone.length yz, .slice xh t.hints.length yh, .slice xr t.servers.length yr, .int .i64 t.turn, .int .i64 t.sends, .int .i64 t.steps, .int .i64 t.code, .slice xa t.ans.length ya] 61)
 have KK := hide (heap_alloc_new w (.cells #[.int .i64 t.state, .int .i64 t.id, .slice xf t.fst.name.length yf, .int .i64 t.fst.type, .slice xn t.name.length yn, .slice xz t.zone.length yz, .slice xh t.hints.length yh, .slice xr t.servers.length yr, .int .i64 t.turn, .int .i64 t.sends, .int .i64 t.steps, .int .i64 t.code, .slice xa t.ans.length ya] 61))
 have H := hide (h.below b0)
 generalize hR : taskOk t = R
 have HR := hide hR
 have Uq := fun (w : World) (v : Value) (h : HasL w v t.fst.name) => l11question_has h
 have Un := fun (w : World) (v : Value) (h : HasL w v t.name) => specNameOk_has h
 have Un2 := fun (w : World) (v : Value) (h : HasL w v t.zone) => specNameOk_has h
 have Uh := fun (w : World) (v : Value) (h : HasI w v t.hints) => l11ips_has h hs1
 have Ur := fun (w : World) (v : Value) (h : HasI w v t.servers) => l11ips_has h hs2
 have Ua := fun (w : World) (v : Value) (h : HasRs w v t.ans) => l4rrs_has h
 generalize hGq : (nameOk t.fst.name && typeOk t.fst.type) = Gq at Uq Un Un2 Uh Ur Ua hB
 generalize hGn : (nameOk t.name) = Gn at Uq Un Un2 Uh Ur Ua hB
 generalize hGz : (nameOk t.zone) = Gz at Uq Un Un2 Uh Ur Ua hB
 generalize hGh : (serversB t.hints) = Gh at Uq Un Un2 Uh Ur Ua hB
 generalize hGr : (serversB t.servers) = Gr at Uq Un Un2 Uh Ur Ua hB
 replace Uq := hide Uq
 replace Un := hide Un
 replace Un2 := hide Un2
 replace Uh := hide Uh
 replace Ur := hide Ur
 replace Ua := hide Ua
 clear hR h
 go_enter Tryz.func39, Tryz.ntmps39
 obtain ⟨d0, d1, d2, d3, d4, d5, d6, d7, d8, d9, d10, d11, d12⟩ := cells13 (unhide KK)
 go_wp2_with fail
 clear d0 d1 d2 d3 d4 d5 d6 d7 d8 d9 d10 d11 d12
 refine (unhide Uq _ _ (unhide H).fst).mono ?_
 rintro e w1 ⟨rfl, b1⟩
 replace b0 := below_next b0 b1
 replace H := hide ((unhide H).below b1)
 replace KK := hide (block_kept b1 (unhide KK))
 clear b1
 cases Gq with
 | false =>
  have hR : R = false := by
   rw [← unhide HR, Bool.eq_false_iff]
   intro q
   obtain ⟨p, p1, p2, p3, p4, p5, p6, p7, p8⟩ := taskOk_iff.1 q
   rw [Bool.and_eq_false_iff] at hGq; rcases hGq with hg | hg <;> simp_all
  subst hR
  clear HR
  obtain ⟨d0, d1, d2, d3, d4, d5, d6, d7, d8, d9, d10, d11, d12⟩ := cells13 (unhide KK)
  go_wp2_with fail
  go_ret
  exact ⟨rfl, b0⟩
 | true =>
  obtain ⟨d0, d1, d2, d3, d4, d5, d6, d7, d8, d9, d10, d11, d12⟩ := cells13 (unhide KK)
  go_wp2_with fail
  clear d0 d1 d2 d3 d4 d5 d6 d7 d8 d9 d10 d11 d12
  refine (unhide Un _ _ (unhide H).name).mono ?_
  rintro e w1 ⟨rfl, b1⟩
  replace b0 := below_next b0 b1
  replace H := hide ((unhide H).below b1)
  replace KK := hide (block_kept b1 (unhide KK))
  clear b1
  cases Gn with
  | false =>
   have hR : R = false := by
    rw [← unhide HR, Bool.eq_false_iff]
    intro q
    obtain ⟨p, p1, p2, p3, p4, p5, p6, p7, p8⟩ := taskOk_iff.1 q
    rw [hGn] at p3; cases p3
   subst hR
   clear HR
   obtain ⟨d0, d1, d2, d3, d4, d5, d6, d7, d8, d9, d10, d11, d12⟩ := cells13 (unhide KK)
   go_wp2_with fail
   go_ret
   exact ⟨rfl, b0⟩
  | true =>
   obtain ⟨d0, d1, d2, d3, d4, d5, d6, d7, d8, d9, d10, d11, d12⟩ := cells13 (unhide KK)
   go_wp2_with fail
   clear d0 d1 d2 d3 d4 d5 d6 d7 d8 d9 d10 d11 d12
   refine (unhide Un2 _ _ (unhide H).zone).mono ?_
   rintro e w1 ⟨rfl, b1⟩
   replace b0 := below_next b0 b1
   replace H := hide ((unhide H).below b1)
   replace KK := hide (block_kept b1 (unhide KK))
   clear b1
   cases Gz with
   | false =>
    have hR : R = false := by
     rw [← unhide HR, Bool.eq_false_iff]
     intro q
     obtain ⟨p, p1, p2, p3, p4, p5, p6, p7, p8⟩ := taskOk_iff.1 q
     rw [hGz] at p4; cases p4
    subst hR
    clear HR
    obtain ⟨d0, d1, d2, d3, d4, d5, d6, d7, d8, d9, d10, d11, d12⟩ := cells13 (unhide KK)
    go_wp2_with fail
    go_ret
    exact ⟨rfl, b0⟩
   | true =>
    obtain ⟨d0, d1, d2, d3, d4, d5, d6, d7, d8, d9, d10, d11, d12⟩ := cells13 (unhide KK)
    go_wp2_with fail
    clear d0 d1 d2 d3 d4 d5 d6 d7 d8 d9 d10 d11 d12
    refine (unhide Uh _ _ (unhide H).hints).mono ?_
    rintro e w1 ⟨rfl, rfl⟩
    cases Gh with
    | false =>
     have hR : R = false := by
      rw [← unhide HR, Bool.eq_false_iff]
      intro q
      obtain ⟨p, p1, p2, p3, p4, p5, p6, p7, p8⟩ := taskOk_iff.1 q
      rw [hGh] at p5; cases p5
     subst hR
     clear HR
     obtain ⟨d0, d1, d2, d3, d4, d5, d6, d7, d8, d9, d10, d11, d12⟩ := cells13 (unhide KK)
     go_wp2_with fail
     go_ret
     exact ⟨rfl, b0⟩
    | true =>
     obtain ⟨d0, d1, d2, d3, d4, d5, d6, d7, d8, d9, d10, d11, d12⟩ := cells13 (unhide KK)
     go_wp2_with fail
     clear d0 d1 d2 d3 d4 d5 d6 d7 d8 d9 d10 d11 d12
     refine (unhide Ur _ _ (unhide H).servers).mono ?_
     rintro e w1 ⟨rfl, rfl⟩
     cases Gr with
     | false =>
      have hR : R = false := by
       rw [← unhide HR, Bool.eq_false_iff]
       intro q
       obtain ⟨p, p1, p2, p3, p4, p5, p6, p7, p8⟩ := taskOk_iff.1 q
       rw [hGr] at p6; cases p6
      subst hR
      clear HR
      obtain ⟨d0, d1, d2, d3, d4, d5, d6, d7, d8, d9, d10, d11, d12⟩ := cells13 (unhide KK)
      go_wp2_with fail
      go_ret
      exact ⟨rfl, b0⟩
     | true =>
      exact absurd hB (by simp)
end Go.Proofs.YtjgfljndeolmoaaGreat
