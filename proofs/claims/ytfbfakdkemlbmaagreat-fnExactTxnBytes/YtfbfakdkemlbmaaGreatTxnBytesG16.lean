/-
  Contracts of small functions of transactions, the program's and the specification's. Contracts of the program's labelSign and LabelOk. Contracts of the program's NameOk. Contracts of the program's upTo. Contracts of the program's data: dataOf, and whether each kind may be. What an assertion on the program's data answers.
-/
import Derived.Test.YtfbfakdkemlbmaaGreatTxnBytesG15
import Derived.Test.YtfbfakdkemlbmaaGreatTxnBytesG04
import Derived.Test.YtfbfakdkemlbmaaGreatTxnBytesG00
import Derived.Handy
namespace Go.Proofs.YtfbfakdkemlbmaaGreat
open Go.RowKit
set_option linter.unusedVariables false

set_option maxHeartbeats 1000000 in
set_option maxRecDepth 100000 in
theorem ipOk_any (x : Int) (w : World) : Calls Tryz.prog 142 #[.int .i64 x] w fun e w' => e = .returned (.bool (ipB x)) ∧ w = w' := by
 unfold ipB
 by_cases h0 : 167772160 < x
 ·by_cases h1 : x ≤ 167772414
  ·rw [decide_eq_true ⟨h0, h1⟩]
   have h2 : x < 167772415 := by omega
   go_enter Tryz.func142, Tryz.ntmps142
   go_wp2
   go_ret
   exact ⟨rfl, rfl⟩
  ·rw [decide_eq_false (fun h => h1 h.2)]
   have h2 : ¬ x < 167772415 := by omega
   go_enter Tryz.func142, Tryz.ntmps142
   go_wp2
   go_ret
   exact ⟨rfl, rfl⟩
 ·rw [decide_eq_false (fun h => h0 h.1)]
  go_enter Tryz.func142, Tryz.ntmps142
  go_wp2
  go_ret
  exact ⟨rfl, rfl⟩

set_option maxHeartbeats 1000000 in
set_option maxRecDepth 100000 in
theorem l8ip_any (x : Int) (w : World) : Calls Tryz.prog 28 #[.int .i64 x] w fun e w' => e = .returned (.bool (ipB x)) ∧ w = w' := by
 unfold ipB
 by_cases h0 : 167772160 < x
 ·by_cases h1 : x ≤ 167772414
  ·rw [decide_eq_true ⟨h0, h1⟩]
   have h2 : x < 167772415 := by omega
   go_enter Tryz.func28, Tryz.ntmps28
   go_wp2
   go_ret
   exact ⟨rfl, rfl⟩
  ·rw [decide_eq_false (fun h => h1 h.2)]
   have h2 : ¬ x < 167772415 := by omega
   go_enter Tryz.func28, Tryz.ntmps28
   go_wp2
   go_ret
   exact ⟨rfl, rfl⟩
 ·rw [decide_eq_false (fun h => h0 h.1)]
  go_enter Tryz.func28, Tryz.ntmps28
  go_wp2
  go_ret
  exact ⟨rfl, rfl⟩

set_option maxHeartbeats 1000000 in
set_option maxRecDepth 100000 in
theorem clientOk_has {v : Value} {l : List Int} {w : World} (h : Has w v l) : Calls Tryz.prog 143 #[v] w fun e w' => e = .returned (.bool (clientB l)) ∧ w = w' := by
 have hbd := h.bound
 obtain ⟨a, cap, rfl, _⟩ := h.form
 clear h
 unfold clientB
 generalize l.length = n at *
 by_cases h0 : 1 ≤ n
 ·by_cases h1 : n ≤ 16
  ·rw [decide_eq_true ⟨h0, h1⟩]
   have i0 : (1 : Int) ≤ n := by omega
   have i2 : (0 : Int) < n := by omega
   have i1 : (n : Int) ≤ 16 := by omega
   clear h0 h1
   go_enter Tryz.func143, Tryz.ntmps143
   go_wp2
   go_ret
   exact ⟨rfl, rfl⟩
  ·rw [decide_eq_false (fun h => h1 h.2)]
   have i0 : (1 : Int) ≤ n := by omega
   have i2 : (0 : Int) < n := by omega
   have i1 : ¬ (n : Int) ≤ 16 := by omega
   clear h0 h1
   go_enter Tryz.func143, Tryz.ntmps143
   go_wp2
   go_ret
   exact ⟨rfl, rfl⟩
 ·rw [decide_eq_false (fun h => h0 h.1)]
  obtain rfl : n = 0 := by omega
  clear h0
  go_enter Tryz.func143, Tryz.ntmps143
  go_wp2
  go_ret
  exact ⟨rfl, rfl⟩

set_option maxHeartbeats 1000000 in
set_option maxRecDepth 100000 in
theorem l7client_has {v : Value} {l : List Int} {w : World} (h : Has w v l) : Calls Tryz.prog 29 #[v] w fun e w' => e = .returned (.bool (clientB l)) ∧ w = w' := by
 have hbd := h.bound
 obtain ⟨a, cap, rfl, _⟩ := h.form
 clear h
 unfold clientB
 generalize l.length = n at *
 by_cases h0 : 1 ≤ n
 ·by_cases h1 : n ≤ 16
  ·rw [decide_eq_true ⟨h0, h1⟩]
   have i0 : (1 : Int) ≤ n := by omega
   have i2 : (0 : Int) < n := by omega
   have i1 : (n : Int) ≤ 16 := by omega
   clear h0 h1
   go_enter Tryz.func29, Tryz.ntmps29
   go_wp2
   go_ret
   exact ⟨rfl, rfl⟩
  ·rw [decide_eq_false (fun h => h1 h.2)]
   have i0 : (1 : Int) ≤ n := by omega
   have i2 : (0 : Int) < n := by omega
   have i1 : ¬ (n : Int) ≤ 16 := by omega
   clear h0 h1
   go_enter Tryz.func29, Tryz.ntmps29
   go_wp2
   go_ret
   exact ⟨rfl, rfl⟩
 ·rw [decide_eq_false (fun h => h0 h.1)]
  obtain rfl : n = 0 := by omega
  clear h0
  go_enter Tryz.func29, Tryz.ntmps29
  go_wp2
  go_ret
  exact ⟨rfl, rfl⟩

set_option maxHeartbeats 4000000 in
set_option maxRecDepth 100000 in
theorem isZeroMsg_has {vq va vb vm vp vu : Value} {m : Mg} {w : World} (h : HasM w vq va vb vm vp vu m) (hct : m.count ≤ 1048576) :
  Calls Tryz.prog 55 #[.agg #[.int .i64 m.id, .bool m.reply, .int .i64 m.op, .bool m.auth, .int .i64 m.code, vq, va, vb, vm, vp, vu]] w fun e w' => e = .returned (.bool (emptyM m)) ∧ Below w.heap.size w w' := by
 obtain ⟨xq, yq, rfl, _, zq⟩ := h.qs.form
 obtain ⟨xa, ya, rfl, _, za⟩ := h.ans.form
 obtain ⟨xb, yb, rfl, _, zb⟩ := h.aus.form
 obtain ⟨xm, ym, rfl, _, zm⟩ := h.more.form
 obtain ⟨xp, yp, rfl, _, zp⟩ := h.pres.form
 obtain ⟨xu, yu, rfl, _, zu⟩ := h.ups.form
 have b0 := below_alloc (w := w) (.cells #[.int .i64 m.id, .bool m.reply, .int .i64 m.op, .bool m.auth, .int .i64 m.code, .slice xq m.qs.length yq, .slice xa m.ans.length ya, .slice xb m.aus.length yb, .slice xm m.more.length ym, .slice xp m.pres.length yp, .slice xu m.ups.length yu] 37)
 have KK := hide (heap_alloc_new w (.cells #[.int .i64 m.id, .bool m.reply, .int .i64 m.op, .bool m.auth, .int .i64 m.code, .slice xq m.qs.length yq, .slice xa m.ans.length ya, .slice xb m.aus.length yb, .slice xm m.more.length ym, .slice xp m.pres.length yp, .slice xu m.ups.length yu] 37))
 have HR := hide (show emptyM m = (decide (m.id = 0) && (!m.reply && (decide (m.op = 0) && (!m.auth && (decide (m.code = 0) && decide (m.count = 0)))))) from rfl)
 generalize emptyM m = R at *
 have hcc : m.count = m.qs.length + m.ans.length + m.aus.length + m.more.length + m.pres.length + m.ups.length := rfl
 generalize m.count = CT at *
 clear h
 unfold maxLen at *
 generalize m.id = I at *
 generalize m.reply = RE at *
 generalize m.op = O at *
 generalize m.auth = AU at *
 generalize m.code = CD at *
 generalize m.qs.length = nq at *
 generalize m.ans.length = na at *
 generalize m.aus.length = nb at *
 generalize m.more.length = nm at *
 generalize m.pres.length = np at *
 generalize m.ups.length = nu at *
 have s0 : IntKind.i64.wrap ((na : Int) + nb) = (na : Int) + nb := wrap_intT _ (by omega) (by omega)
 have s1 : IntKind.i64.wrap ((na : Int) + nb + nm) = (na : Int) + nb + nm := wrap_intT _ (by omega) (by omega)
 have s2 : IntKind.i64.wrap ((nq : Int) + (na + nb + nm)) = (nq : Int) + (na + nb + nm) := wrap_intT _ (by omega) (by omega)
 have s3 : IntKind.i64.wrap ((nq : Int) + (na + nb + nm) + np) = (nq : Int) + (na + nb + nm) + np := wrap_intT _ (by omega) (by omega)
 have s4 : IntKind.i64.wrap ((nq : Int) + (na + nb + nm) + np + nu) = (nq : Int) + (na + nb + nm) + np + nu := wrap_intT _ (by omega) (by omega)
 by_cases e0 : I = 0
 ·subst e0
  by_cases e1 : O = 0
  ·subst e1
   by_cases e2 : CD = 0
   ·subst e2
    cases RE with
    | true =>
     have hR : R = false := by have := unhide HR; rw [this] <;> simp
     subst hR
     clear HR
     go_enter Tryz.func55, Tryz.ntmps55
     obtain ⟨d0, d1, d2, d3, d4, d5, d6, d7, d8, d9, d10⟩ := cells11 (unhide KK)
     go_wp2_with fail
     go_ret
     exact ⟨rfl, b0⟩
    | false =>
     cases AU with
     | true =>
      have hR : R = false := by have := unhide HR; rw [this] <;> simp
      subst hR
      clear HR
      go_enter Tryz.func55, Tryz.ntmps55
      obtain ⟨d0, d1, d2, d3, d4, d5, d6, d7, d8, d9, d10⟩ := cells11 (unhide KK)
      go_wp2_with fail
      go_ret
      exact ⟨rfl, b0⟩
     | false =>
      by_cases ez : CT = 0
      ·obtain rfl : nq = 0 := by omega
       obtain rfl : na = 0 := by omega
       obtain rfl : nb = 0 := by omega
       obtain rfl : nm = 0 := by omega
       obtain rfl : np = 0 := by omega
       obtain rfl : nu = 0 := by omega
       have hR : R = true := by have := unhide HR; rw [this] <;> simp [ez]
       subst hR
       clear HR s0 s1 s2 s3 s4 hcc ez
       go_enter Tryz.func55, Tryz.ntmps55
       obtain ⟨d0, d1, d2, d3, d4, d5, d6, d7, d8, d9, d10⟩ := cells11 (unhide KK)
       go_wp2_with fail
       go_ret
       exact ⟨rfl, b0⟩
      ·have hR : R = false := by have := unhide HR; rw [this] <;> simp [ez]
       have qz : ((nq : Int) + (na + nb + nm) + np + nu == 0) = false := by rw [beq_eq_false_iff_ne]; omega
       subst hR
       clear HR ez
       go_enter Tryz.func55, Tryz.ntmps55
       obtain ⟨d0, d1, d2, d3, d4, d5, d6, d7, d8, d9, d10⟩ := cells11 (unhide KK)
       go_wp2_with fail
       go_ret
       exact ⟨rfl, b0⟩
   ·have q2 : (CD == 0) = false := by rw [beq_eq_false_iff_ne]; omega
    have hR : R = false := by have := unhide HR; rw [this] <;> simp [e2]
    subst hR
    clear HR e2
    go_enter Tryz.func55, Tryz.ntmps55
    obtain ⟨d0, d1, d2, d3, d4, d5, d6, d7, d8, d9, d10⟩ := cells11 (unhide KK)
    go_wp2_with fail
    go_ret
    exact ⟨rfl, b0⟩
  ·have q1 : (O == 0) = false := by rw [beq_eq_false_iff_ne]; omega
   have hR : R = false := by have := unhide HR; rw [this] <;> simp [e1]
   subst hR
   clear HR e1
   go_enter Tryz.func55, Tryz.ntmps55
   obtain ⟨d0, d1, d2, d3, d4, d5, d6, d7, d8, d9, d10⟩ := cells11 (unhide KK)
   go_wp2_with fail
   go_ret
   exact ⟨rfl, b0⟩
 ·have q0 : (I == 0) = false := by rw [beq_eq_false_iff_ne]; omega
  have hR : R = false := by have := unhide HR; rw [this] <;> simp [e0]
  subst hR
  clear HR e0
  go_enter Tryz.func55, Tryz.ntmps55
  obtain ⟨d0, d1, d2, d3, d4, d5, d6, d7, d8, d9, d10⟩ := cells11 (unhide KK)
  go_wp2_with fail
  go_ret
  exact ⟨rfl, b0⟩

set_option maxHeartbeats 4000000 in
set_option maxRecDepth 100000 in
theorem l9emptyMsg_has {vq va vb vm vp vu : Value} {m : Mg} {w : World} (h : HasM w vq va vb vm vp vu m) (hct : m.count ≤ 1048576) :
  Calls Tryz.prog 27 #[.agg #[.int .i64 m.id, .bool m.reply, .int .i64 m.op, .bool m.auth, .int .i64 m.code, vq, va, vb, vm, vp, vu]] w fun e w' => e = .returned (.bool (emptyM m)) ∧ Below w.heap.size w w' := by
 obtain ⟨xq, yq, rfl, _, zq⟩ := h.qs.form
 obtain ⟨xa, ya, rfl, _, za⟩ := h.ans.form
 obtain ⟨xb, yb, rfl, _, zb⟩ := h.aus.form
 obtain ⟨xm, ym, rfl, _, zm⟩ := h.more.form
 obtain ⟨xp, yp, rfl, _, zp⟩ := h.pres.form
 obtain ⟨xu, yu, rfl, _, zu⟩ := h.ups.form
 have b0 := below_alloc (w := w) (.cells #[.int .i64 m.id, .bool m.reply, .int .i64 m.op, .bool m.auth, .int .i64 m.code, .slice xq m.qs.length yq, .slice xa m.ans.length ya, .slice xb m.aus.length yb, .slice xm m.more.length ym, .slice xp m.pres.length yp, .slice xu m.ups.length yu] 37)
 have KK := hide (heap_alloc_new w (.cells #[.int .i64 m.id, .bool m.reply, .int .i64 m.op, .bool m.auth, .int .i64 m.code, .slice xq m.qs.length yq, .slice xa m.ans.length ya, .slice xb m.aus.length yb, .slice xm m.more.length ym, .slice xp m.pres.length yp, .slice xu m.ups.length yu] 37))
 have HR := hide (show emptyM m = (decide (m.id = 0) && (!m.reply && (decide (m.op = 0) && (!m.auth && (decide (m.code = 0) && decide (m.count = 0)))))) from rfl)
 generalize emptyM m = R at *
 have hcc : m.count = m.qs.length + m.ans.length + m.aus.length + m.more.length + m.pres.length + m.ups.length := rfl
 generalize m.count = CT at *
 clear h
 unfold maxLen at *
 generalize m.id = I at *
 generalize m.reply = RE at *
 generalize m.op = O at *
 generalize m.auth = AU at *
 generalize m.code = CD at *
 generalize m.qs.length = nq at *
 generalize m.ans.length = na at *
 generalize m.aus.length = nb at *
 generalize m.more.length = nm at *
 generalize m.pres.length = np at *
 generalize m.ups.length = nu at *
 have s0 : IntKind.i64.wrap ((nq : Int) + na) = (nq : Int) + na := wrap_intT _ (by omega) (by omega)
 have s1 : IntKind.i64.wrap ((nq : Int) + na + nb) = (nq : Int) + na + nb := wrap_intT _ (by omega) (by omega)
 have s2 : IntKind.i64.wrap ((nq : Int) + na + nb + nm) = (nq : Int) + na + nb + nm := wrap_intT _ (by omega) (by omega)
 have s3 : IntKind.i64.wrap ((nq : Int) + na + nb + nm + np) = (nq : Int) + na + nb + nm + np := wrap_intT _ (by omega) (by omega)
 have s4 : IntKind.i64.wrap ((nq : Int) + na + nb + nm + np + nu) = (nq : Int) + na + nb + nm + np + nu := wrap_intT _ (by omega) (by omega)
 by_cases e0 : I = 0
 ·subst e0
  cases RE with
  | true =>
   have hR : R = false := by have := unhide HR; rw [this] <;> simp
   subst hR
   clear HR
   go_enter Tryz.func27, Tryz.ntmps27
   obtain ⟨d0, d1, d2, d3, d4, d5, d6, d7, d8, d9, d10⟩ := cells11 (unhide KK)
   go_wp2_with fail
   go_ret
   exact ⟨rfl, b0⟩
  | false =>
   by_cases e2 : O = 0
   ·subst e2
    cases AU with
    | true =>
     have hR : R = false := by have := unhide HR; rw [this] <;> simp
     subst hR
     clear HR
     go_enter Tryz.func27, Tryz.ntmps27
     obtain ⟨d0, d1, d2, d3, d4, d5, d6, d7, d8, d9, d10⟩ := cells11 (unhide KK)
     go_wp2_with fail
     go_ret
     exact ⟨rfl, b0⟩
    | false =>
     by_cases e4 : CD = 0
     ·subst e4
      by_cases ez : CT = 0
      ·obtain rfl : nq = 0 := by omega
       obtain rfl : na = 0 := by omega
       obtain rfl : nb = 0 := by omega
       obtain rfl : nm = 0 := by omega
       obtain rfl : np = 0 := by omega
       obtain rfl : nu = 0 := by omega
       have hR : R = true := by have := unhide HR; rw [this] <;> simp [ez]
       subst hR
       clear HR s0 s1 s2 s3 s4 hcc ez
       go_enter Tryz.func27, Tryz.ntmps27
       obtain ⟨d0, d1, d2, d3, d4, d5, d6, d7, d8, d9, d10⟩ := cells11 (unhide KK)
       go_wp2_with fail
       go_ret
       exact ⟨rfl, b0⟩
      ·have hR : R = false := by have := unhide HR; rw [this] <;> simp [ez]
       have qz : ((nq : Int) + na + nb + nm + np + nu == 0) = false := by rw [beq_eq_false_iff_ne]; omega
       subst hR
       clear HR ez
       go_enter Tryz.func27, Tryz.ntmps27
       obtain ⟨d0, d1, d2, d3, d4, d5, d6, d7, d8, d9, d10⟩ := cells11 (unhide KK)
       go_wp2_with fail
       go_ret
       exact ⟨rfl, b0⟩
     ·have q4 : (CD == 0) = false := by rw [beq_eq_false_iff_ne]; omega
      have hR : R = false := by have := unhide HR; rw [this] <;> simp [e4]
      subst hR
      clear HR e4
      go_enter Tryz.func27, Tryz.ntmps27
      obtain ⟨d0, d1, d2, d3, d4, d5, d6, d7, d8, d9, d10⟩ := cells11 (unhide KK)
      go_wp2_with fail
      go_ret
      exact ⟨rfl, b0⟩
   ·have q2 : (O == 0) = false := by rw [beq_eq_false_iff_ne]; omega
    have hR : R = false := by have := unhide HR; rw [this] <;> simp [e2]
    subst hR
    clear HR e2
    go_enter Tryz.func27, Tryz.ntmps27
    obtain ⟨d0, d1, d2, d3, d4, d5, d6, d7, d8, d9, d10⟩ := cells11 (unhide KK)
    go_wp2_with fail
    go_ret
    exact ⟨rfl, b0⟩
 ·have q0 : (I == 0) = false := by rw [beq_eq_false_iff_ne]; omega
  have hR : R = false := by have := unhide HR; rw [this] <;> simp [e0]
  subst hR
  clear HR e0
  go_enter Tryz.func27, Tryz.ntmps27
  obtain ⟨d0, d1, d2, d3, d4, d5, d6, d7, d8, d9, d10⟩ := cells11 (unhide KK)
  go_wp2_with fail
  go_ret
  exact ⟨rfl, b0⟩
end Go.Proofs.YtfbfakdkemlbmaaGreat

namespace Go.Proofs.YtfbfakdkemlbmaaGreat
open Go.RowKit
set_option linter.unusedVariables false

theorem sign_cases (c : Int) : (97 ≤ c ∧ c ≤ 122) ∨ (97 ≤ c ∧ 122 < c) ∨ (c < 97 ∧ 48 ≤ c ∧ c ≤ 57) ∨ (c < 97 ∧ 48 ≤ c ∧ 57 < c ∧ c ≠ 45) ∨ (c < 97 ∧ c < 48 ∧ c = 45) ∨ (c < 97 ∧ c < 48 ∧ c ≠ 45) := by omega

set_option maxHeartbeats 400000 in
set_option maxRecDepth 100000 in
theorem labelSign_any (c : Int) (w : World) :
  Calls Tryz.prog 135 #[.int .u8 c] w fun e w' => e = .returned (.bool (signOk c)) ∧ w = w' := by
 rcases sign_cases c with ⟨h1, h2⟩ | ⟨h1, h2⟩ | ⟨h1, h2, h3⟩ | ⟨h1, h2, h3, h4⟩ | ⟨h1, h2, rfl⟩ | ⟨h1, h2, h3⟩
 ·have hs : signOk c = true := decide_eq_true (by omega)
  rw [hs]
  go_enter Tryz.func135, Tryz.ntmps135
  go_wp2
  go_ret
  exact ⟨rfl, rfl⟩
 ·have hs : signOk c = false := decide_eq_false (by omega)
  rw [hs]
  have h5 : 48 ≤ c := by omega
  have h6 : ¬ c ≤ 57 := by omega
  have h7 : ¬ c ≤ 122 := by omega
  have h8 : (c == 45) = false := by simp; omega
  go_enter Tryz.func135, Tryz.ntmps135
  go_wp2
  go_ret
  exact ⟨rfl, rfl⟩
 ·have hs : signOk c = true := decide_eq_true (by omega)
  rw [hs]
  have h5 : ¬ 97 ≤ c := by omega
  go_enter Tryz.func135, Tryz.ntmps135
  go_wp2
  go_ret
  exact ⟨rfl, rfl⟩
 ·have hs : signOk c = false := decide_eq_false (by omega)
  rw [hs]
  have h5 : ¬ 97 ≤ c := by omega
  have h6 : ¬ c ≤ 57 := by omega
  have h8 : (c == 45) = false := by simp; omega
  go_enter Tryz.func135, Tryz.ntmps135
  go_wp2
  go_ret
  exact ⟨rfl, rfl⟩
 ·have hs : signOk 45 = true := rfl
  rw [hs]
  go_enter Tryz.func135, Tryz.ntmps135
  go_wp2
  go_ret
  exact ⟨rfl, rfl⟩
 ·have hs : signOk c = false := decide_eq_false (by omega)
  rw [hs]
  have h5 : ¬ 97 ≤ c := by omega
  have h6 : ¬ 48 ≤ c := by omega
  have h8 : (c == 45) = false := by simp; omega
  go_enter Tryz.func135, Tryz.ntmps135
  go_wp2
  go_ret
  exact ⟨rfl, rfl⟩

set_option maxHeartbeats 400000 in
set_option maxRecDepth 100000 in
theorem implLabelOk_has {v : Value} {l : List Int} {w : World} (h : Has w v l) :
  Calls Tryz.prog 128 #[v] w fun e w' => e = .returned (.bool (labelOk l)) ∧ w = w' := by
 have hbd := h.bound
 unfold maxLen at hbd
 obtain ⟨a, cap, rfl, hL⟩ := h.form
 by_cases h0 : l.length = 0
 ·rw [labelOk_short (by omega), h0]
  go_enter Tryz.func128, Tryz.ntmps128
  go_wp2
  go_ret
  exact ⟨rfl, rfl⟩
 ·by_cases h1 : 15 < l.length
  ·rw [labelOk_short (by omega)]
   generalize hn : l.length = n at *
   have h3 : ((n : Int) == 0) = false := by simp; omega
   go_enter Tryz.func128, Tryz.ntmps128
   go_wp2
   go_ret
   exact ⟨rfl, rfl⟩
  ·have h2 : l.length ≤ 15 := by omega
   have hyes := hide (fun (hs : ∀ j, j < l.length → signOk (l.getD j 0) = true) => labelOk_yes (l := l) (by omega) h2 hs)
   have hno := hide (fun (j : Nat) (hj : j < l.length) (hs : signOk (l.getD j 0) = false) => labelOk_sign hj hs)
   generalize hok : labelOk l = ok at *
   clear hok
   generalize hn : l.length = n at *
   have HN := hide hn
   clear hn
   have h3 : ((n : Int) == 0) = false := by simp; omega
   go_enter Tryz.func128, Tryz.ntmps128
   go_wp2
   go_loop [15] (fun i => ∃ k : Nat, k ≤ n ∧ i = .int .i64 k ∧ Hid (∀ j, j < k → signOk (l.getD j 0) = true)) (fun i => n - (intOf i).toNat)
   case atStart => exact ⟨0, Nat.zero_le _, rfl, hide (fun j hj => absurd hj (Nat.not_lt_zero _))⟩
   case round =>
    obtain ⟨k, hk, rfl, hall⟩ := hrel
    by_cases hlt : k < n
    ·obtain ⟨b, off, rfl, hbl, hc⟩ := hL.here (k := k) (by rw [unhide HN]; exact hlt)
     have hone := hide (fun (hs : signOk (l.getD k 0) = true) => (show ∀ j, j < k + 1 → signOk (l.getD j 0) = true from fun j hj => by
      by_cases e : j = k
      ·subst e; exact hs
      ·exact unhide hall j (by omega)))
     have hnok := hide (fun (hs : signOk (l.getD k 0) = false) => unhide hno k hlt hs)
     generalize hx : l.getD k 0 = x at *
     go_wp2_with fail
     refine (labelSign_any x _).mono ?_
     rintro e w1 ⟨rfl, rfl⟩
     cases hs : signOk x with
     | true =>
      go_wp2
      exact ⟨⟨k + 1, by omega, by go_num, hide (unhide hone hs)⟩, by simp [intOf]; omega⟩
     | false =>
      have hq := unhide hnok hs
      subst hq
      go_wp2
      go_ret
      exact ⟨rfl, rfl⟩
    ·obtain rfl : k = n := by omega
     have hq := unhide hyes (unhide hall)
     subst hq
     go_wp2
     go_ret
     exact ⟨rfl, rfl⟩
end Go.Proofs.YtfbfakdkemlbmaaGreat

namespace Go.Proofs.YtfbfakdkemlbmaaGreat
open Go.RowKit
set_option linter.unusedVariables false

set_option maxHeartbeats 400000 in
set_option maxRecDepth 100000 in
theorem implNameOk_has {v : Value} {n : List (List Int)} {w : World} (h : HasL w v n) :
  Calls Tryz.prog 118 #[.agg #[v]] w fun e w' => e = .returned (.bool (nameOk n)) ∧ Below w.heap.size w w' := by
 obtain ⟨a, cap, rfl, hl, hm⟩ := h.form
 unfold maxLen at hm
 by_cases h1 : 6 < n.length
 ·rw [nameOk_long h1]
  have H := hide h
  clear h
  generalize hn : n.length = m at *
  have HN := hide hn
  clear hn
  go_enter Tryz.func118, Tryz.ntmps118
  go_wp2
  go_ret
  exact ⟨rfl, below_alloc _⟩
 ·have h2 : n.length ≤ 6 := by omega
  have hA := h.below (below_alloc (.cells #[.slice a n.length cap] 100))
  have H := hide h
  clear h
  have hyes := hide (fun (hs : ∀ j, j < n.length → labelOk (n.getD j []) = true) => nameOk_yes (n := n) h2 hs)
  have hno := hide (fun (j : Nat) (hj : j < n.length) (hs : labelOk (n.getD j []) = false) => nameOk_label hj hs)
  generalize hok : nameOk n = ok at *
  clear hok
  generalize hn : n.length = m at *
  have HN := hide hn
  clear hn
  go_enter Tryz.func118, Tryz.ntmps118
  go_wp2
  go_loop [12] (fun i => ∃ k : Nat, k ≤ m ∧ i = .int .i64 k ∧ Hid (∀ j, j < k → labelOk (n.getD j []) = true)) (fun i => m - (intOf i).toNat)
  case atStart => exact ⟨0, Nat.zero_le _, rfl, hide (fun j hj => absurd hj (Nat.not_lt_zero _))⟩
  case round =>
   obtain ⟨k, hk, rfl, hall⟩ := hrel
   by_cases hlt : k < m
   ·obtain ⟨b, off, u, rfl, hbl, hc, hu⟩ := hA.here (k := k) (by rw [unhide HN]; exact hlt)
    have hone := hide (fun (hs : labelOk (n.getD k []) = true) => (show ∀ j, j < k + 1 → labelOk (n.getD j []) = true from fun j hj => by
      by_cases e : j = k
      ·subst e; exact hs
      ·exact unhide hall j (by omega)))
    have hnok := hide (fun (hs : labelOk (n.getD k []) = false) => unhide hno k hlt hs)
    generalize hx : n.getD k [] = x at *
    have HU := hide hu
    obtain ⟨ua, uc, rfl, _⟩ := hu.form
    clear hu
    go_wp2_with fail
    refine (implLabelOk_has (unhide HU)).mono ?_
    rintro e w1 ⟨rfl, rfl⟩
    cases hs : labelOk x with
    | true =>
     go_wp2
     exact ⟨⟨k + 1, by omega, by go_num, hide (unhide hone hs)⟩, by simp [intOf]; omega⟩
    | false =>
     have hq := unhide hnok hs
     subst hq
     go_wp2
     go_ret
     exact ⟨rfl, below_alloc _⟩
   ·obtain rfl : k = m := by omega
    have hq := unhide hyes (unhide hall)
    subst hq
    go_wp2
    go_ret
    exact ⟨rfl, below_alloc _⟩
end Go.Proofs.YtfbfakdkemlbmaaGreat

namespace Go.Proofs.YtfbfakdkemlbmaaGreat
open Go.RowKit
set_option linter.unusedVariables false

set_option maxHeartbeats 400000 in
set_option maxRecDepth 100000 in
theorem upTo_yes {n m : Int} (w : World) (h0 : 0 ≤ n) (h1 : n ≤ m) : Calls Tryz.prog 109 #[.int .i64 n, .int .i64 m] w fun e w' => e = .returned (.bool true) ∧ w = w' := by
 go_enter Tryz.func109, Tryz.ntmps109
 go_wp2
 go_ret
 exact ⟨rfl, rfl⟩

set_option maxHeartbeats 400000 in
set_option maxRecDepth 100000 in
theorem upTo_no {n m : Int} (w : World) (h : n < 0 ∨ m < n) : Calls Tryz.prog 109 #[.int .i64 n, .int .i64 m] w fun e w' => e = .returned (.bool false) ∧ w = w' := by
 by_cases h0 : n < 0
 ·go_enter Tryz.func109, Tryz.ntmps109
  go_wp2
  go_ret
  exact ⟨rfl, rfl⟩
 ·have h1 : m < n := by omega
  have h2 : decide (n ≤ m) = false := decide_eq_false (by omega)
  go_enter Tryz.func109, Tryz.ntmps109
  go_wp2
  go_ret
  exact ⟨rfl, rfl⟩
theorem upTo_any (n m : Int) (w : World) : Calls Tryz.prog 109 #[.int .i64 n, .int .i64 m] w fun e w' => e = .returned (.bool (decide (0 ≤ n ∧ n ≤ m))) ∧ w = w' := by
 by_cases h : 0 ≤ n ∧ n ≤ m
 ·rw [decide_eq_true h]; exact upTo_yes w h.1 h.2
 ·rw [decide_eq_false h]; exact upTo_no w (by omega)
end Go.Proofs.YtfbfakdkemlbmaaGreat

namespace Go.Proofs.YtfbfakdkemlbmaaGreat
open Go.RowKit
set_option linter.unusedVariables false

set_option maxHeartbeats 400000 in
set_option maxRecDepth 100000 in
theorem addrOk_any (a : Int) (w : World) : Calls Tryz.prog 156 #[.agg #[.int .i64 a]] w fun e w' => e = .returned (.bool (decide (0 ≤ a ∧ a ≤ 4294967295))) ∧ Below w.heap.size w w' := by
 have b0 := below_alloc (w := w) (.cells #[.int .i64 a] 170)
 have hU := hide (upTo_any a 4294967295)
 generalize decide (0 ≤ a ∧ a ≤ 4294967295) = D at *
 go_enter Tryz.func156, Tryz.ntmps156
 go_wp2_with fail
 refine (unhide hU _).mono ?_
 rintro e w1 ⟨rfl, rfl⟩
 go_wp2
 go_ret
 exact ⟨rfl, b0⟩

set_option maxHeartbeats 400000 in
set_option maxRecDepth 100000 in
theorem nameOkM_has {v : Value} {n : List (List Int)} {w : World} (h : HasL w v n) : Calls Tryz.prog 160 #[.agg #[v]] w fun e w' => e = .returned (.bool (nameOk n)) ∧ Below w.heap.size w w' := by
 obtain ⟨a, cap, rfl, _⟩ := h.form
 have b0 := below_alloc (w := w) (.cells #[.slice a n.length cap] 172)
 have hU := hide (implNameOk_has (h.below b0))
 clear h
 generalize nameOk n = D at *
 go_enter Tryz.func160, Tryz.ntmps160
 go_wp2_with fail
 refine (unhide hU).mono ?_
 rintro e w1 ⟨rfl, b1⟩
 go_wp2
 go_ret
 exact ⟨rfl, below_next b0 b1⟩

set_option maxHeartbeats 400000 in
set_option maxRecDepth 100000 in
theorem textOk_has {v : Value} {l : List Int} {w : World} (h : Has w v l) : Calls Tryz.prog 168 #[.agg #[v]] w fun e w' => e = .returned (.bool (decide (l.length ≤ 40))) ∧ Below w.heap.size w w' := by
 obtain ⟨a, cap, rfl, _⟩ := h.form
 have b0 := below_alloc (w := w) (.cells #[.slice a l.length cap] 176)
 clear h
 have e : decide (l.length ≤ 40) = decide ((l.length : Int) ≤ 40) := decide_eq_decide.2 (by omega)
 rw [e]
 go_enter Tryz.func168, Tryz.ntmps168
 go_wp2
 go_ret
 exact ⟨rfl, b0⟩

/-- The two numbers of a zone's head. -/
def numsOk (nu : List Int) : Bool := decide (nu.length = 2 ∧ 0 ≤ nu.getD 0 0 ∧ nu.getD 0 0 ≤ 4294967295 ∧ 0 ≤ nu.getD 1 0 ∧ nu.getD 1 0 ≤ 100000)

set_option maxHeartbeats 800000 in
set_option maxRecDepth 100000 in
theorem soaOk_has {v vi : Value} {n : List (List Int)} {nu : List Int} {w : World} (h : HasL w v n) (hi : HasI w vi nu) : Calls Tryz.prog 164 #[.agg #[v, vi]] w fun e w' => e = .returned (.bool (nameOk n && numsOk nu)) ∧ Below w.heap.size w w' := by
 obtain ⟨a, cap, rfl, _⟩ := h.form
 obtain ⟨ia, ic, rfl, _⟩ := hi.form
 have b0 := below_alloc (w := w) (.cells #[.slice a n.length cap, .slice ia nu.length ic] 174)
 have k0 := heap_alloc_new w (.cells #[.slice a n.length cap, .slice ia nu.length ic] 174)
 have hU := hide (implNameOk_has (h.below b0))
 have I0 := hide (hi.below b0)
 clear h hi
 generalize nameOk n = D at *
 cases D with
 | false =>
  rw [Bool.false_and]
  go_enter Tryz.func164, Tryz.ntmps164
  go_wp2_with fail
  refine (unhide hU).mono ?_
  rintro e w1 ⟨rfl, b1⟩
  go_wp2
  go_ret
  exact ⟨rfl, below_next b0 b1⟩
 | true =>
  rw [Bool.true_and]
  by_cases h2 : nu.length = 2
  ·obtain ⟨x, y, rfl⟩ := two_of h2
   have e : numsOk [x, y] = (decide (0 ≤ x ∧ x ≤ 4294967295) && decide (0 ≤ y ∧ y ≤ 100000)) := by
    unfold numsOk
    rw [← Bool.decide_and]
    apply decide_eq_decide.2
    simp
    omega
   rw [e]
   simp only [List.length_cons, List.length_nil, Nat.zero_add, Nat.reduceAdd] at *
   have hX := hide (upTo_any x 4294967295)
   have hY := hide (upTo_any y 100000)
   generalize decide (0 ≤ x ∧ x ≤ 4294967295) = DX at *
   generalize decide (0 ≤ y ∧ y ≤ 100000) = DY at *
   clear h2 e
   cases DX with
   | false =>
    rw [Bool.false_and]
    go_enter Tryz.func164, Tryz.ntmps164
    go_wp2_with fail
    generalize w.alloc (.cells #[.slice a n.length cap, .slice ia 2 ic] 174) = W at *
    refine (unhide hU).mono ?_
    rintro e w1 ⟨rfl, b1⟩
    have k1 := block_kept b1 k0
    have c0 := block_cell k1 0
    have c1 := block_cell k1 1
    simp only [List.getElem?_toArray, List.getElem?_cons_zero, List.getElem?_cons_succ] at c0 c1
    obtain ⟨g, off, cp, hv, _, n0, n1⟩ := ((unhide I0).below b1).two
    simp only [Value.slice.injEq] at hv
    obtain ⟨rfl, _, rfl⟩ := hv
    go_wp2_with fail
    refine (unhide hX _).mono ?_
    rintro e w2 ⟨rfl, rfl⟩
    go_wp2_with fail
    go_ret
    exact ⟨rfl, below_next b0 b1⟩
   | true =>
    rw [Bool.true_and]
    go_enter Tryz.func164, Tryz.ntmps164
    go_wp2_with fail
    generalize w.alloc (.cells #[.slice a n.length cap, .slice ia 2 ic] 174) = W at *
    refine (unhide hU).mono ?_
    rintro e w1 ⟨rfl, b1⟩
    have k1 := block_kept b1 k0
    have c0 := block_cell k1 0
    have c1 := block_cell k1 1
    simp only [List.getElem?_toArray, List.getElem?_cons_zero, List.getElem?_cons_succ] at c0 c1
    obtain ⟨g, off, cp, hv, _, n0, n1⟩ := ((unhide I0).below b1).two
    simp only [Value.slice.injEq] at hv
    obtain ⟨rfl, _, rfl⟩ := hv
    go_wp2_with fail
    refine (unhide hX _).mono ?_
    rintro e w2 ⟨rfl, rfl⟩
    go_wp2_with fail
    refine (unhide hY _).mono ?_
    rintro e w2 ⟨rfl, rfl⟩
    go_wp2_with fail
    go_ret
    exact ⟨rfl, below_next b0 b1⟩
  ·have e : numsOk nu = false := decide_eq_false (fun hh => h2 hh.1)
   rw [e]
   have h22 : ((nu.length : Int) == 2) = false := by rw [beq_eq_false_iff_ne]; omega
   go_enter Tryz.func164, Tryz.ntmps164
   go_wp2_with fail
   generalize w.alloc (.cells #[.slice a n.length cap, .slice ia nu.length ic] 174) = W at *
   refine (unhide hU).mono ?_
   rintro e w1 ⟨rfl, b1⟩
   have k1 := block_kept b1 k0
   have c0 := block_cell k1 0
   have c1 := block_cell k1 1
   simp only [List.getElem?_toArray, List.getElem?_cons_zero, List.getElem?_cons_succ] at c0 c1
   go_wp2_with fail
   go_ret
   exact ⟨rfl, below_next b0 b1⟩
end Go.Proofs.YtfbfakdkemlbmaaGreat

namespace Go.Proofs.YtfbfakdkemlbmaaGreat
open Go.RowKit
set_option linter.unusedVariables false

theorem ta_aa (v : Value) (w : World) : Sem.run Tryz.prog (Instr.typeAssert (.iface 170 v) 164 170 true) w = .ok (.tuple #[v, .bool true]) w := by kernel_rfl
theorem ta_an (v : Value) (w : World) : Sem.run Tryz.prog (Instr.typeAssert (.iface 170 v) 164 172 true) w = .ok (.tuple #[.agg #[.slice none 0 0], .bool false]) w := by kernel_rfl
theorem ta_as (v : Value) (w : World) : Sem.run Tryz.prog (Instr.typeAssert (.iface 170 v) 164 174 true) w = .ok (.tuple #[.agg #[.slice none 0 0, .slice none 0 0], .bool false]) w := by kernel_rfl
theorem ta_ax (v : Value) (w : World) : Sem.run Tryz.prog (Instr.typeAssert (.iface 170 v) 164 176 true) w = .ok (.tuple #[.agg #[.slice none 0 0], .bool false]) w := by kernel_rfl
theorem ta_na (v : Value) (w : World) : Sem.run Tryz.prog (Instr.typeAssert (.iface 172 v) 164 170 true) w = .ok (.tuple #[.agg #[.int .i64 0], .bool false]) w := by kernel_rfl
theorem ta_nn (v : Value) (w : World) : Sem.run Tryz.prog (Instr.typeAssert (.iface 172 v) 164 172 true) w = .ok (.tuple #[v, .bool true]) w := by kernel_rfl
theorem ta_ns (v : Value) (w : World) : Sem.run Tryz.prog (Instr.typeAssert (.iface 172 v) 164 174 true) w = .ok (.tuple #[.agg #[.slice none 0 0, .slice none 0 0], .bool false]) w := by kernel_rfl
theorem ta_nx (v : Value) (w : World) : Sem.run Tryz.prog (Instr.typeAssert (.iface 172 v) 164 176 true) w = .ok (.tuple #[.agg #[.slice none 0 0], .bool false]) w := by kernel_rfl
theorem ta_sa (v : Value) (w : World) : Sem.run Tryz.prog (Instr.typeAssert (.iface 174 v) 164 170 true) w = .ok (.tuple #[.agg #[.int .i64 0], .bool false]) w := by kernel_rfl
theorem ta_sn (v : Value) (w : World) : Sem.run Tryz.prog (Instr.typeAssert (.iface 174 v) 164 172 true) w = .ok (.tuple #[.agg #[.slice none 0 0], .bool false]) w := by kernel_rfl
theorem ta_ss (v : Value) (w : World) : Sem.run Tryz.prog (Instr.typeAssert (.iface 174 v) 164 174 true) w = .ok (.tuple #[v, .bool true]) w := by kernel_rfl
theorem ta_sx (v : Value) (w : World) : Sem.run Tryz.prog (Instr.typeAssert (.iface 174 v) 164 176 true) w = .ok (.tuple #[.agg #[.slice none 0 0], .bool false]) w := by kernel_rfl
theorem ta_xa (v : Value) (w : World) : Sem.run Tryz.prog (Instr.typeAssert (.iface 176 v) 164 170 true) w = .ok (.tuple #[.agg #[.int .i64 0], .bool false]) w := by kernel_rfl
theorem ta_xn (v : Value) (w : World) : Sem.run Tryz.prog (Instr.typeAssert (.iface 176 v) 164 172 true) w = .ok (.tuple #[.agg #[.slice none 0 0], .bool false]) w := by kernel_rfl
theorem ta_xs (v : Value) (w : World) : Sem.run Tryz.prog (Instr.typeAssert (.iface 176 v) 164 174 true) w = .ok (.tuple #[.agg #[.slice none 0 0, .slice none 0 0], .bool false]) w := by kernel_rfl
theorem ta_xx (v : Value) (w : World) : Sem.run Tryz.prog (Instr.typeAssert (.iface 176 v) 164 176 true) w = .ok (.tuple #[v, .bool true]) w := by kernel_rfl
end Go.Proofs.YtfbfakdkemlbmaaGreat
