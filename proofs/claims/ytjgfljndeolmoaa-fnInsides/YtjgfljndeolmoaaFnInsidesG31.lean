/-
  Contracts of the program's ipsOk, serversOk, stateOk and TaskOk.
-/
import Derived.Test.YtjgfljndeolmoaaFnInsidesG25
import Derived.Test.YtjgfljndeolmoaaFnInsidesG26
import Derived.Test.YtjgfljndeolmoaaFnInsidesG30
import Derived.Test.YtjgfljndeolmoaaFnInsidesG05
import Derived.Test.YtjgfljndeolmoaaFnInsidesG03
namespace Go.Proofs.Ytjgfljndeolmoaa
open Go.RowKit
set_option linter.unusedVariables false

set_option maxHeartbeats 1000000 in
set_option maxRecDepth 100000 in
theorem ipsOk_has {v : Value} {l : List Int} {w : World} (h : HasI w v l) (hl : l.length ≤ 1048576) :
  Calls Try.prog 107 #[v] w fun e w' => e = .returned (.bool (ipsB l)) ∧ w = w' := by
 obtain ⟨a, cap, rfl, hL⟩ := h.form
 generalize hR : ipsB l = R
 have HR := hide hR
 clear hR h
 generalize hn : l.length = n at *
 have HN := hide hn
 clear hn
 go_enter Try.func107, Try.ntmps107
 go_wp2
 go_loopw [7] (fun i wr => ∃ k : Nat, k ≤ n ∧ i = .int .i64 k ∧ (∀ j, j < k → 0 ≤ l.getD j 0 ∧ l.getD j 0 ≤ 4294967295) ∧ wr = w) (fun i _ => n - (intOf i).toNat)
 case atStart => exact ⟨0, Nat.zero_le _, rfl, fun j hj => absurd hj (Nat.not_lt_zero _), rfl⟩
 case round =>
  obtain ⟨k, hk, rfl, hall, rfl⟩ := hrel
  have HA := hide hall
  clear hall
  by_cases hlt : k < n
  ·obtain ⟨b, off, rfl, hbl, hc⟩ := hL.here (k := k) (by rw [unhide HN]; exact hlt)
   generalize hx : l.getD k 0 = x at *
   have HX := hide hx
   clear hx
   have U := upTo_any x 4294967295 wr
   by_cases hx : 0 ≤ x ∧ x ≤ 4294967295
   ·rw [decide_eq_true hx] at U
    replace U := hide U
    go_wp2_with fail
    refine (unhide U).mono ?_
    rintro e w2 ⟨rfl, rfl⟩
    have HA2 := hide (show ∀ j, j < k + 1 → 0 ≤ l.getD j 0 ∧ l.getD j 0 ≤ 4294967295 from fun j hj => by
     by_cases e : j = k
     ·subst e; rw [unhide HX]; exact hx
     ·exact unhide HA j (by omega))
    go_wp2
    exact ⟨⟨k + 1, by omega, by go_num, unhide HA2, (by first | rfl | trivial)⟩, by simp [intOf]; omega⟩
   ·rw [decide_eq_false hx] at U
    replace U := hide U
    have hR : R = false := by rw [← unhide HR]; exact ipsB_no (k := k) (by rw [unhide HN]; exact hlt) (by rw [unhide HX]; exact hx)
    subst hR
    clear hx
    go_wp2_with fail
    refine (unhide U).mono ?_
    rintro e w2 ⟨rfl, rfl⟩
    go_wp2
    go_ret
    exact ⟨rfl, rfl⟩
  ·obtain rfl : k = n := by omega
   have hR : R = true := by rw [← unhide HR]; exact ipsB_yes (fun j hj => unhide HA j (by rw [unhide HN] at hj; exact hj))
   subst hR
   go_wp2
   go_ret
   exact ⟨rfl, rfl⟩

set_option maxHeartbeats 1000000 in
set_option maxRecDepth 100000 in
theorem serversOk_has {v : Value} {l : List Int} {w : World} (h : HasI w v l) (hl : l.length ≤ 1048576) :
  Calls Try.prog 62 #[v] w fun e w' => e = .returned (.bool (serversB l)) ∧ w = w' := by
 have IP := hide (ipsOk_has h hl)
 obtain ⟨a, cap, rfl, hL⟩ := h.form
 unfold serversB
 generalize ipsB l = G at *
 generalize hn : l.length = n at *
 clear hn hL h
 by_cases h1 : 1 ≤ n
 ·rw [decide_eq_true h1, Bool.true_and]
  by_cases h4 : n ≤ 4
  ·rw [decide_eq_true h4, Bool.true_and]
   go_enter Try.func62, Try.ntmps62
   go_wp2_with fail
   refine (unhide IP).mono ?_
   rintro e w2 ⟨rfl, rfl⟩
   go_wp2
   go_ret
   exact ⟨rfl, rfl⟩
  ·rw [decide_eq_false h4, Bool.false_and]
   go_enter Try.func62, Try.ntmps62
   go_wp2
   go_ret
   exact ⟨rfl, rfl⟩
 ·rw [decide_eq_false h1, Bool.false_and]
  go_enter Try.func62, Try.ntmps62
  go_wp2
  go_ret
  exact ⟨rfl, rfl⟩

set_option maxHeartbeats 1000000 in
set_option maxRecDepth 100000 in
theorem stateOk_has {vf vn vz vh vr va : Value} {t : Tk} {w : World} (h : HasTk w vf vn vz vh vr va t) :
  Calls Try.prog 63 #[.agg #[.int .i64 t.state, .int .i64 t.id, vf, .int .i64 t.fst.type, vn, vz, vh, vr, .int .i64 t.turn, .int .i64 t.sends, .int .i64 t.steps, .int .i64 t.code, va]] w fun e w' => e = .returned (.bool (stateB t)) ∧ Below w.heap.size w w' := by
 obtain ⟨xf, yf, rfl, _⟩ := h.fst.form
 obtain ⟨xn, yn, rfl, _⟩ := h.name.form
 obtain ⟨xz, yz, rfl, _⟩ := h.zone.form
 obtain ⟨xh, yh, rfl, _⟩ := h.hints.form
 obtain ⟨xr, yr, rfl, _⟩ := h.servers.form
 obtain ⟨xa, ya, rfl, _⟩ := h.ans.form
 have b0 := below_alloc (w := w) (.cells #[.int .i64 t.state, .int .i64 t.id, .slice xf t.fst.name.length yf, .int .i64 t.fst.type, .slice xn t.name.length yn, .slice xz t.zone.length yz, .slice xh t.hints.length yh, .slice xr t.servers.length yr, .int .i64 t.turn, .int .i64 t.sends, .int .i64 t.steps, .int .i64 t.code, .slice xa t.ans.length ya] 48)
 have KK := hide (heap_alloc_new w (.cells #[.int .i64 t.state, .int .i64 t.id, .slice xf t.fst.name.length yf, .int .i64 t.fst.type, .slice xn t.name.length yn, .slice xz t.zone.length yz, .slice xh t.hints.length yh, .slice xr t.servers.length yr, .int .i64 t.turn, .int .i64 t.sends, .int .i64 t.steps, .int .i64 t.code, .slice xa t.ans.length ya] 48))
 generalize hR : stateB t = R
 unfold stateB upB at hR
 have U1 := hide (fun w => upTo_any t.sends 11 w)
 have U2 := hide (fun w => upTo_any t.steps 5 w)
 have U3 := hide (fun w => codeOk_any t.code w)
 have U4 := hide (fun w => upTo_any t.sends 12 w)
 have U5 := hide (fun w => upTo_any t.steps 6 w)
 generalize decide (0 ≤ t.sends ∧ t.sends ≤ 11) = G1 at *
 generalize decide (0 ≤ t.steps ∧ t.steps ≤ 5) = G2 at *
 generalize decide (0 ≤ t.code ∧ t.code ≤ 10) = G3 at *
 generalize decide (0 ≤ t.sends ∧ t.sends ≤ 12) = G4 at *
 generalize decide (0 ≤ t.steps ∧ t.steps ≤ 6) = G5 at *
 clear h
 by_cases h0 : t.state = 0
 ·rw [if_pos h0] at hR
  by_cases hc : t.code = 0
  ·rw [decide_eq_true hc, Bool.true_and] at hR
   have HR := hide hR.symm
   have hq0 : (t.state == 0) = true := by rw [h0]; rfl
   have hq : (t.code == 0) = true := by rw [hc]; rfl
   clear hR h0 hc
   go_enter Try.func63, Try.ntmps63
   obtain ⟨d0, d1, d2, d3, d4, d5, d6, d7, d8, d9, d10, d11, d12⟩ := cells13 (unhide KK)
   go_wp2_with fail
   clear d0 d1 d2 d3 d4 d5 d6 d7 d8 d9 d10 d11 d12
   refine (unhide U1 _).mono ?_
   rintro e w1 ⟨rfl, rfl⟩
   cases G1 with
   | false =>
    have hR : R = false := by have := unhide HR; simpa using this
    subst hR
    clear HR
    obtain ⟨d0, d1, d2, d3, d4, d5, d6, d7, d8, d9, d10, d11, d12⟩ := cells13 (unhide KK)
    go_wp2_with fail
    go_ret
    exact ⟨rfl, b0⟩
   | true =>
    obtain ⟨d0, d1, d2, d3, d4, d5, d6, d7, d8, d9, d10, d11, d12⟩ := cells13 (unhide KK)
    go_wp2_with fail
    clear d0 d1 d2 d3 d4 d5 d6 d7 d8 d9 d10 d11 d12
    refine (unhide U2 _).mono ?_
    rintro e w1 ⟨rfl, rfl⟩
    cases G2 with
    | false =>
     have hR : R = false := by have := unhide HR; simpa using this
     subst hR
     clear HR
     obtain ⟨d0, d1, d2, d3, d4, d5, d6, d7, d8, d9, d10, d11, d12⟩ := cells13 (unhide KK)
     go_wp2_with fail
     go_ret
     exact ⟨rfl, b0⟩
    | true =>
     have hR : R = true := by have := unhide HR; simpa using this
     subst hR
     clear HR
     obtain ⟨d0, d1, d2, d3, d4, d5, d6, d7, d8, d9, d10, d11, d12⟩ := cells13 (unhide KK)
     go_wp2_with fail
     go_ret
     exact ⟨rfl, b0⟩
  ·rw [decide_eq_false hc, Bool.false_and] at hR
   have hq : (t.code == 0) = false := by rw [beq_eq_false_iff_ne]; exact hc
   subst hR
   have hq0 : (t.state == 0) = true := by rw [h0]; rfl
   clear h0 hc
   go_enter Try.func63, Try.ntmps63
   obtain ⟨d0, d1, d2, d3, d4, d5, d6, d7, d8, d9, d10, d11, d12⟩ := cells13 (unhide KK)
   go_wp2_with fail
   go_ret
   exact ⟨rfl, b0⟩
 ·rw [if_neg h0] at hR
  have hq0 : (t.state == 0) = false := by rw [beq_eq_false_iff_ne]; exact h0
  by_cases h1 : t.state = 1
  ·rw [if_pos h1] at hR
   have HR := hide hR.symm
   have hq1 : (t.state == 1) = true := by rw [h1]; rfl
   clear hR h0 h1
   go_enter Try.func63, Try.ntmps63
   obtain ⟨d0, d1, d2, d3, d4, d5, d6, d7, d8, d9, d10, d11, d12⟩ := cells13 (unhide KK)
   go_wp2_with fail
   clear d0 d1 d2 d3 d4 d5 d6 d7 d8 d9 d10 d11 d12
   refine (unhide U3 _).mono ?_
   rintro e w1 ⟨rfl, rfl⟩
   cases G3 with
   | false =>
    have hR : R = false := by have := unhide HR; simpa using this
    subst hR
    clear HR
    obtain ⟨d0, d1, d2, d3, d4, d5, d6, d7, d8, d9, d10, d11, d12⟩ := cells13 (unhide KK)
    go_wp2_with fail
    go_ret
    exact ⟨rfl, b0⟩
   | true =>
    obtain ⟨d0, d1, d2, d3, d4, d5, d6, d7, d8, d9, d10, d11, d12⟩ := cells13 (unhide KK)
    go_wp2_with fail
    clear d0 d1 d2 d3 d4 d5 d6 d7 d8 d9 d10 d11 d12
    refine (unhide U4 _).mono ?_
    rintro e w1 ⟨rfl, rfl⟩
    cases G4 with
    | false =>
     have hR : R = false := by have := unhide HR; simpa using this
     subst hR
     clear HR
     obtain ⟨d0, d1, d2, d3, d4, d5, d6, d7, d8, d9, d10, d11, d12⟩ := cells13 (unhide KK)
     go_wp2_with fail
     go_ret
     exact ⟨rfl, b0⟩
    | true =>
     obtain ⟨d0, d1, d2, d3, d4, d5, d6, d7, d8, d9, d10, d11, d12⟩ := cells13 (unhide KK)
     go_wp2_with fail
     clear d0 d1 d2 d3 d4 d5 d6 d7 d8 d9 d10 d11 d12
     refine (unhide U5 _).mono ?_
     rintro e w1 ⟨rfl, rfl⟩
     cases G5 with
     | false =>
      have hR : R = false := by have := unhide HR; simpa using this
      subst hR
      clear HR
      obtain ⟨d0, d1, d2, d3, d4, d5, d6, d7, d8, d9, d10, d11, d12⟩ := cells13 (unhide KK)
      go_wp2_with fail
      go_ret
      exact ⟨rfl, b0⟩
     | true =>
      have hR : R = true := by have := unhide HR; simpa using this
      subst hR
      clear HR
      obtain ⟨d0, d1, d2, d3, d4, d5, d6, d7, d8, d9, d10, d11, d12⟩ := cells13 (unhide KK)
      go_wp2_with fail
      go_ret
      exact ⟨rfl, b0⟩
  ·rw [if_neg h1] at hR
   have hq1 : (t.state == 1) = false := by rw [beq_eq_false_iff_ne]; exact h1
   subst hR
   clear h0 h1
   go_enter Try.func63, Try.ntmps63
   obtain ⟨d0, d1, d2, d3, d4, d5, d6, d7, d8, d9, d10, d11, d12⟩ := cells13 (unhide KK)
   go_wp2_with fail
   go_ret
   exact ⟨rfl, b0⟩

set_option maxHeartbeats 4000000 in
set_option maxRecDepth 100000 in
theorem implTaskOk_has {vf vn vz vh vr va : Value} {t : Tk} {w : World} (h : HasTk w vf vn vz vh vr va t) (hs1 : t.hints.length ≤ 1048576) (hs2 : t.servers.length ≤ 1048576) :
  Calls Try.prog 15 #[.agg #[.int .i64 t.state, .int .i64 t.id, vf, .int .i64 t.fst.type, vn, vz, vh, vr, .int .i64 t.turn, .int .i64 t.sends, .int .i64 t.steps, .int .i64 t.code, va]] w fun e w' => e = .returned (.bool (taskOk t)) ∧ Below w.heap.size w w' := by
 obtain ⟨xf, yf, rfl, _⟩ := h.fst.form
 obtain ⟨xn, yn, rfl, _⟩ := h.name.form
 obtain ⟨xz, yz, rfl, _⟩ := h.zone.form
 obtain ⟨xh, yh, rfl, _⟩ := h.hints.form
 obtain ⟨xr, yr, rfl, _⟩ := h.servers.form
 obtain ⟨xa, ya, rfl, _⟩ := h.ans.form
 have b0 := below_alloc (w := w) (.cells #[.int .i64 t.state, .int .i64 t.id, .slice xf t.fst.name.length yf, .int .i64 t.fst.type, .slice xn t.name.length yn, .slice xz t.zone.length yz, .slice xh t.hints.length yh, .slice xr t.servers.length yr, .int .i64 t.turn, .int .i64 t.sends, .int .i64 t.steps, .int .i64 t.code, .slice xa t.ans.length ya] 48)
 have KK := hide (heap_alloc_new w (.cells #[.int .i64 t.state, .int .i64 t.id, .slice xf t.fst.name.length yf, .int .i64 t.fst.type, .slice xn t.name.length yn, .slice xz t.zone.length yz, .slice xh t.hints.length yh, .slice xr t.servers.length yr, .int .i64 t.turn, .int .i64 t.sends, .int .i64 t.steps, .int .i64 t.code, .slice xa t.ans.length ya] 48))
 have H := hide (h.below b0)
 generalize hR : taskOk t = R
 unfold taskOk askB srvB upB at hR
 have U1 := hide (fun w => upTo_any t.id 65535 w)
 have U2 := hide (fun (w : World) (v : Value) (h : HasL w v t.fst.name) => implNameOk_has h)
 have U3 := hide (fun w => implTypeOk_any t.fst.type w)
 have U4 := hide (fun (w : World) (v u : Value) (h : HasL w v t.name) (h' : HasL w u t.zone) => implUnder_has h h')
 have U5 := hide (fun (w : World) (v : Value) (h : HasI w v t.hints) => serversOk_has h hs1)
 have U6 := hide (fun (w : World) (v : Value) (h : HasI w v t.servers) => serversOk_has h hs2)
 have U7 := hide (fun w => upTo_any t.turn ((t.servers.length : Int) - 1) w)
 have U8 := hide (fun (w : World) (vf vn vz vh vr va : Value) (h : HasTk w vf vn vz vh vr va t) => stateOk_has h)
 have U9 := hide (fun (w : World) (v : Value) (h : HasRs w v t.ans) => listOkRr_has h)
 generalize decide (0 ≤ t.id ∧ t.id ≤ 65535) = G1 at *
 generalize nameOk t.fst.name = G2 at *
 generalize typeOk t.fst.type = G3 at *
 generalize under t.name t.zone = G4 at *
 generalize serversB t.hints = G5 at *
 generalize serversB t.servers = G6 at *
 generalize decide (0 ≤ t.turn ∧ t.turn ≤ (t.servers.length : Int) - 1) = G7 at *
 generalize stateB t = G8 at *
 generalize rrsOk t.ans = G9 at *
 have HR := hide hR.symm
 have hw : IntKind.i64.wrap ((t.servers.length : Int) - 1) = (t.servers.length : Int) - 1 := by
  rcases Nat.eq_zero_or_pos t.servers.length with h | h
  ·rw [h]; rfl
  ·have e : (t.servers.length : Int) - 1 = ((t.servers.length - 1 : Nat) : Int) := by omega
   rw [e]
   exact wrap_small _ (by omega)
 clear hR h
 go_enter Try.func15, Try.ntmps15
 obtain ⟨d0, d1, d2, d3, d4, d5, d6, d7, d8, d9, d10, d11, d12⟩ := cells13 (unhide KK)
 go_wp2_with fail
 clear d0 d1 d2 d3 d4 d5 d6 d7 d8 d9 d10 d11 d12
 refine (unhide U1 _).mono ?_
 rintro e w1 ⟨rfl, rfl⟩
 cases G1 with
 | false =>
  obtain ⟨d0, d1, d2, d3, d4, d5, d6, d7, d8, d9, d10, d11, d12⟩ := cells13 (unhide KK)
  go_wp2_with fail
  clear d0 d1 d2 d3 d4 d5 d6 d7 d8 d9 d10 d11 d12
  refine (unhide U5 _ _ (unhide H).hints).mono ?_
  rintro e w1 ⟨rfl, rfl⟩
  cases G5 with
  | false =>
   have hR : R = false := by have := unhide HR; simpa using this
   subst hR
   clear HR
   obtain ⟨d0, d1, d2, d3, d4, d5, d6, d7, d8, d9, d10, d11, d12⟩ := cells13 (unhide KK)
   go_wp2_with fail
   go_ret
   exact ⟨rfl, b0⟩
  | true =>
   obtain ⟨d0, d1, d2, d3, d4, d5, d6, d7, d8, d9, d10, d11, d12⟩ := cells13 (unhide KK)
   go_wp2_with fail
   clear d0 d1 d2 d3 d4 d5 d6 d7 d8 d9 d10 d11 d12
   refine (unhide U6 _ _ (unhide H).servers).mono ?_
   rintro e w1 ⟨rfl, rfl⟩
   cases G6 with
   | false =>
    have hR : R = false := by have := unhide HR; simpa using this
    subst hR
    clear HR
    obtain ⟨d0, d1, d2, d3, d4, d5, d6, d7, d8, d9, d10, d11, d12⟩ := cells13 (unhide KK)
    go_wp2_with fail
    go_ret
    exact ⟨rfl, b0⟩
   | true =>
    obtain ⟨d0, d1, d2, d3, d4, d5, d6, d7, d8, d9, d10, d11, d12⟩ := cells13 (unhide KK)
    go_wp2_with fail
    clear d0 d1 d2 d3 d4 d5 d6 d7 d8 d9 d10 d11 d12
    refine (unhide U7 _).mono ?_
    rintro e w1 ⟨rfl, rfl⟩
    cases G7 with
    | false =>
     have hR : R = false := by have := unhide HR; simpa using this
     subst hR
     clear HR
     obtain ⟨d0, d1, d2, d3, d4, d5, d6, d7, d8, d9, d10, d11, d12⟩ := cells13 (unhide KK)
     go_wp2_with fail
     go_ret
     exact ⟨rfl, b0⟩
    | true =>
     have hR : R = false := by have := unhide HR; simpa using this
     subst hR
     clear HR
     obtain ⟨d0, d1, d2, d3, d4, d5, d6, d7, d8, d9, d10, d11, d12⟩ := cells13 (unhide KK)
     go_wp2_with fail
     go_ret
     exact ⟨rfl, b0⟩
 | true =>
  obtain ⟨d0, d1, d2, d3, d4, d5, d6, d7, d8, d9, d10, d11, d12⟩ := cells13 (unhide KK)
  go_wp2_with fail
  clear d0 d1 d2 d3 d4 d5 d6 d7 d8 d9 d10 d11 d12
  refine (unhide U2 _ _ (unhide H).fst).mono ?_
  rintro e w1 ⟨rfl, b1⟩
  replace b0 := below_next b0 b1
  replace H := hide ((unhide H).below b1)
  replace KK := hide (block_kept b1 (unhide KK))
  clear b1
  cases G2 with
  | false =>
   obtain ⟨d0, d1, d2, d3, d4, d5, d6, d7, d8, d9, d10, d11, d12⟩ := cells13 (unhide KK)
   go_wp2_with fail
   clear d0 d1 d2 d3 d4 d5 d6 d7 d8 d9 d10 d11 d12
   refine (unhide U5 _ _ (unhide H).hints).mono ?_
   rintro e w1 ⟨rfl, rfl⟩
   cases G5 with
   | false =>
    have hR : R = false := by have := unhide HR; simpa using this
    subst hR
    clear HR
    obtain ⟨d0, d1, d2, d3, d4, d5, d6, d7, d8, d9, d10, d11, d12⟩ := cells13 (unhide KK)
    go_wp2_with fail
    go_ret
    exact ⟨rfl, b0⟩
   | true =>
    obtain ⟨d0, d1, d2, d3, d4, d5, d6, d7, d8, d9, d10, d11, d12⟩ := cells13 (unhide KK)
    go_wp2_with fail
    clear d0 d1 d2 d3 d4 d5 d6 d7 d8 d9 d10 d11 d12
    refine (unhide U6 _ _ (unhide H).servers).mono ?_
    rintro e w1 ⟨rfl, rfl⟩
    cases G6 with
    | false =>
     have hR : R = false := by have := unhide HR; simpa using this
     subst hR
     clear HR
     obtain ⟨d0, d1, d2, d3, d4, d5, d6, d7, d8, d9, d10, d11, d12⟩ := cells13 (unhide KK)
     go_wp2_with fail
     go_ret
     exact ⟨rfl, b0⟩
    | true =>
     obtain ⟨d0, d1, d2, d3, d4, d5, d6, d7, d8, d9, d10, d11, d12⟩ := cells13 (unhide KK)
     go_wp2_with fail
     clear d0 d1 d2 d3 d4 d5 d6 d7 d8 d9 d10 d11 d12
     refine (unhide U7 _).mono ?_
     rintro e w1 ⟨rfl, rfl⟩
     cases G7 with
     | false =>
      have hR : R = false := by have := unhide HR; simpa using this
      subst hR
      clear HR
      obtain ⟨d0, d1, d2, d3, d4, d5, d6, d7, d8, d9, d10, d11, d12⟩ := cells13 (unhide KK)
      go_wp2_with fail
      go_ret
      exact ⟨rfl, b0⟩
     | true =>
      have hR : R = false := by have := unhide HR; simpa using this
      subst hR
      clear HR
      obtain ⟨d0, d1, d2, d3, d4, d5, d6, d7, d8, d9, d10, d11, d12⟩ := cells13 (unhide KK)
      go_wp2_with fail
      go_ret
      exact ⟨rfl, b0⟩
  | true =>
   obtain ⟨d0, d1, d2, d3, d4, d5, d6, d7, d8, d9, d10, d11, d12⟩ := cells13 (unhide KK)
   go_wp2_with fail
   clear d0 d1 d2 d3 d4 d5 d6 d7 d8 d9 d10 d11 d12
   refine (unhide U3 _).mono ?_
   rintro e w1 ⟨rfl, rfl⟩
   cases G3 with
   | false =>
    obtain ⟨d0, d1, d2, d3, d4, d5, d6, d7, d8, d9, d10, d11, d12⟩ := cells13 (unhide KK)
    go_wp2_with fail
    clear d0 d1 d2 d3 d4 d5 d6 d7 d8 d9 d10 d11 d12
    refine (unhide U5 _ _ (unhide H).hints).mono ?_
    rintro e w1 ⟨rfl, rfl⟩
    cases G5 with
    | false =>
     have hR : R = false := by have := unhide HR; simpa using this
     subst hR
     clear HR
     obtain ⟨d0, d1, d2, d3, d4, d5, d6, d7, d8, d9, d10, d11, d12⟩ := cells13 (unhide KK)
     go_wp2_with fail
     go_ret
     exact ⟨rfl, b0⟩
    | true =>
     obtain ⟨d0, d1, d2, d3, d4, d5, d6, d7, d8, d9, d10, d11, d12⟩ := cells13 (unhide KK)
     go_wp2_with fail
     clear d0 d1 d2 d3 d4 d5 d6 d7 d8 d9 d10 d11 d12
     refine (unhide U6 _ _ (unhide H).servers).mono ?_
     rintro e w1 ⟨rfl, rfl⟩
     cases G6 with
     | false =>
      have hR : R = false := by have := unhide HR; simpa using this
      subst hR
      clear HR
      obtain ⟨d0, d1, d2, d3, d4, d5, d6, d7, d8, d9, d10, d11, d12⟩ := cells13 (unhide KK)
      go_wp2_with fail
      go_ret
      exact ⟨rfl, b0⟩
     | true =>
      obtain ⟨d0, d1, d2, d3, d4, d5, d6, d7, d8, d9, d10, d11, d12⟩ := cells13 (unhide KK)
      go_wp2_with fail
      clear d0 d1 d2 d3 d4 d5 d6 d7 d8 d9 d10 d11 d12
      refine (unhide U7 _).mono ?_
      rintro e w1 ⟨rfl, rfl⟩
      cases G7 with
      | false =>
       have hR : R = false := by have := unhide HR; simpa using this
       subst hR
       clear HR
       obtain ⟨d0, d1, d2, d3, d4, d5, d6, d7, d8, d9, d10, d11, d12⟩ := cells13 (unhide KK)
       go_wp2_with fail
       go_ret
       exact ⟨rfl, b0⟩
      | true =>
       have hR : R = false := by have := unhide HR; simpa using this
       subst hR
       clear HR
       obtain ⟨d0, d1, d2, d3, d4, d5, d6, d7, d8, d9, d10, d11, d12⟩ := cells13 (unhide KK)
       go_wp2_with fail
       go_ret
       exact ⟨rfl, b0⟩
   | true =>
    obtain ⟨d0, d1, d2, d3, d4, d5, d6, d7, d8, d9, d10, d11, d12⟩ := cells13 (unhide KK)
    go_wp2_with fail
    clear d0 d1 d2 d3 d4 d5 d6 d7 d8 d9 d10 d11 d12
    refine (unhide U4 _ _ _ (unhide H).name (unhide H).zone).mono ?_
    rintro e w1 ⟨rfl, b1⟩
    replace b0 := below_next b0 b1
    replace H := hide ((unhide H).below b1)
    replace KK := hide (block_kept b1 (unhide KK))
    clear b1
    cases G4 with
    | false =>
     obtain ⟨d0, d1, d2, d3, d4, d5, d6, d7, d8, d9, d10, d11, d12⟩ := cells13 (unhide KK)
     go_wp2_with fail
     clear d0 d1 d2 d3 d4 d5 d6 d7 d8 d9 d10 d11 d12
     refine (unhide U5 _ _ (unhide H).hints).mono ?_
     rintro e w1 ⟨rfl, rfl⟩
     cases G5 with
     | false =>
      have hR : R = false := by have := unhide HR; simpa using this
      subst hR
      clear HR
      obtain ⟨d0, d1, d2, d3, d4, d5, d6, d7, d8, d9, d10, d11, d12⟩ := cells13 (unhide KK)
      go_wp2_with fail
      go_ret
      exact ⟨rfl, b0⟩
     | true =>
      obtain ⟨d0, d1, d2, d3, d4, d5, d6, d7, d8, d9, d10, d11, d12⟩ := cells13 (unhide KK)
      go_wp2_with fail
      clear d0 d1 d2 d3 d4 d5 d6 d7 d8 d9 d10 d11 d12
      refine (unhide U6 _ _ (unhide H).servers).mono ?_
      rintro e w1 ⟨rfl, rfl⟩
      cases G6 with
      | false =>
       have hR : R = false := by have := unhide HR; simpa using this
       subst hR
       clear HR
       obtain ⟨d0, d1, d2, d3, d4, d5, d6, d7, d8, d9, d10, d11, d12⟩ := cells13 (unhide KK)
       go_wp2_with fail
       go_ret
       exact ⟨rfl, b0⟩
      | true =>
       obtain ⟨d0, d1, d2, d3, d4, d5, d6, d7, d8, d9, d10, d11, d12⟩ := cells13 (unhide KK)
       go_wp2_with fail
       clear d0 d1 d2 d3 d4 d5 d6 d7 d8 d9 d10 d11 d12
       refine (unhide U7 _).mono ?_
       rintro e w1 ⟨rfl, rfl⟩
       cases G7 with
       | false =>
        have hR : R = false := by have := unhide HR; simpa using this
        subst hR
        clear HR
        obtain ⟨d0, d1, d2, d3, d4, d5, d6, d7, d8, d9, d10, d11, d12⟩ := cells13 (unhide KK)
        go_wp2_with fail
        go_ret
        exact ⟨rfl, b0⟩
       | true =>
        have hR : R = false := by have := unhide HR; simpa using this
        subst hR
        clear HR
        obtain ⟨d0, d1, d2, d3, d4, d5, d6, d7, d8, d9, d10, d11, d12⟩ := cells13 (unhide KK)
        go_wp2_with fail
        go_ret
        exact ⟨rfl, b0⟩
    | true =>
     obtain ⟨d0, d1, d2, d3, d4, d5, d6, d7, d8, d9, d10, d11, d12⟩ := cells13 (unhide KK)
     go_wp2_with fail
     clear d0 d1 d2 d3 d4 d5 d6 d7 d8 d9 d10 d11 d12
     refine (unhide U5 _ _ (unhide H).hints).mono ?_
     rintro e w1 ⟨rfl, rfl⟩
     cases G5 with
     | false =>
      have hR : R = false := by have := unhide HR; simpa using this
      subst hR
      clear HR
      obtain ⟨d0, d1, d2, d3, d4, d5, d6, d7, d8, d9, d10, d11, d12⟩ := cells13 (unhide KK)
      go_wp2_with fail
      go_ret
      exact ⟨rfl, b0⟩
     | true =>
      obtain ⟨d0, d1, d2, d3, d4, d5, d6, d7, d8, d9, d10, d11, d12⟩ := cells13 (unhide KK)
      go_wp2_with fail
      clear d0 d1 d2 d3 d4 d5 d6 d7 d8 d9 d10 d11 d12
      refine (unhide U6 _ _ (unhide H).servers).mono ?_
      rintro e w1 ⟨rfl, rfl⟩
      cases G6 with
      | false =>
       have hR : R = false := by have := unhide HR; simpa using this
       subst hR
       clear HR
       obtain ⟨d0, d1, d2, d3, d4, d5, d6, d7, d8, d9, d10, d11, d12⟩ := cells13 (unhide KK)
       go_wp2_with fail
       go_ret
       exact ⟨rfl, b0⟩
      | true =>
       obtain ⟨d0, d1, d2, d3, d4, d5, d6, d7, d8, d9, d10, d11, d12⟩ := cells13 (unhide KK)
       go_wp2_with fail
       clear d0 d1 d2 d3 d4 d5 d6 d7 d8 d9 d10 d11 d12
       refine (unhide U7 _).mono ?_
       rintro e w1 ⟨rfl, rfl⟩
       cases G7 with
       | false =>
        have hR : R = false := by have := unhide HR; simpa using this
        subst hR
        clear HR
        obtain ⟨d0, d1, d2, d3, d4, d5, d6, d7, d8, d9, d10, d11, d12⟩ := cells13 (unhide KK)
        go_wp2_with fail
        go_ret
        exact ⟨rfl, b0⟩
       | true =>
        obtain ⟨d0, d1, d2, d3, d4, d5, d6, d7, d8, d9, d10, d11, d12⟩ := cells13 (unhide KK)
        go_wp2_with fail
        clear d0 d1 d2 d3 d4 d5 d6 d7 d8 d9 d10 d11 d12
        refine (unhide U8 _ _ _ _ _ _ _ (unhide H)).mono ?_
        rintro e w1 ⟨rfl, b1⟩
        replace b0 := below_next b0 b1
        replace H := hide ((unhide H).below b1)
        replace KK := hide (block_kept b1 (unhide KK))
        clear b1
        cases G8 with
        | false =>
         have hR : R = false := by have := unhide HR; simpa using this
         subst hR
         clear HR
         obtain ⟨d0, d1, d2, d3, d4, d5, d6, d7, d8, d9, d10, d11, d12⟩ := cells13 (unhide KK)
         go_wp2_with fail
         go_ret
         exact ⟨rfl, b0⟩
        | true =>
         obtain ⟨d0, d1, d2, d3, d4, d5, d6, d7, d8, d9, d10, d11, d12⟩ := cells13 (unhide KK)
         go_wp2_with fail
         clear d0 d1 d2 d3 d4 d5 d6 d7 d8 d9 d10 d11 d12
         refine (unhide U9 _ _ (unhide H).ans).mono ?_
         rintro e w1 ⟨rfl, b1⟩
         replace b0 := below_next b0 b1
         replace H := hide ((unhide H).below b1)
         replace KK := hide (block_kept b1 (unhide KK))
         clear b1
         cases G9 with
         | false =>
          have hR : R = false := by have := unhide HR; simpa using this
          subst hR
          clear HR
          obtain ⟨d0, d1, d2, d3, d4, d5, d6, d7, d8, d9, d10, d11, d12⟩ := cells13 (unhide KK)
          go_wp2_with fail
          go_ret
          exact ⟨rfl, b0⟩
         | true =>
          have hR : R = true := by have := unhide HR; simpa using this
          subst hR
          clear HR
          obtain ⟨d0, d1, d2, d3, d4, d5, d6, d7, d8, d9, d10, d11, d12⟩ := cells13 (unhide KK)
          go_wp2_with fail
          go_ret
          exact ⟨rfl, b0⟩
end Go.Proofs.Ytjgfljndeolmoaa
