/-
  Contract of the program's TxnOk. Plain facts: a transaction as bytes. No program is named here. A region that draws its order, taken in the order of its numbers: that this may be is asked once a region. What only hands flags on, or is not wanted, is done in one step. A region that draws its order, taken in an order that is given: that this may be is asked once a region.
-/
import Derived.Test.YtfbfakdkemlbmaaGreatTxnBytesG26
import Derived.Test.YtfbfakdkemlbmaaGreatTxnBytesG27
import Derived.Test.YtfbfakdkemlbmaaGreatTxnBytesG15
import Derived.Test.YtfbfakdkemlbmaaGreatTxnBytesG00
import Derived.Test.YtfbfakdkemlbmaaGreatTxnBytesG13
namespace Go.Proofs.YtfbfakdkemlbmaaGreat
open Go.RowKit
set_option linter.unusedVariables false

set_option maxHeartbeats 1000000 in
set_option maxRecDepth 100000 in
theorem deedOfE_any {xq : Option Addr} {yq : Nat} {xa : Option Addr} {ya : Nat} {xb : Option Addr} {yb : Nat} {xm : Option Addr} {ym : Nat} {xp : Option Addr} {yp : Nat} {xu : Option Addr} {yu : Nat} {xc : Option Addr} {yc : Nat} {xh : Option Addr} {yh : Nat} {t : Tx} {w : World} (n0 : t.kind ≠ 0) (n1 : t.kind ≠ 1) (n2 : t.kind ≠ 2) (n3 : t.kind ≠ 3) :
  Calls Tryz.prog 20 #[.agg #[.int .i64 t.kind, .int .i64 t.msg.id, .bool t.msg.reply, .int .i64 t.msg.op, .bool t.msg.auth, .int .i64 t.msg.code, .slice xq t.msg.qs.length yq, .slice xa t.msg.ans.length ya, .slice xb t.msg.aus.length yb, .slice xm t.msg.more.length ym, .slice xp t.msg.pres.length yp, .slice xu t.msg.ups.length yu, .int .i64 t.ip, .slice xc t.client.length yc, .slice xh t.host.length yh, .int .i64 t.when]] w fun e w' => e = .returned .nilIface ∧ Below w.heap.size w w' := by
 generalize t.kind = KI at *
 have q0 : (KI == 0) = false := by rw [beq_eq_false_iff_ne]; exact n0
 have q1 : (KI == 1) = false := by rw [beq_eq_false_iff_ne]; exact n1
 have q2 : (KI == 2) = false := by rw [beq_eq_false_iff_ne]; exact n2
 have q3 : (KI == 3) = false := by rw [beq_eq_false_iff_ne]; exact n3
 clear n0 n1 n2 n3
 have b0 := below_alloc (w := w) (.cells #[.int .i64 KI, .int .i64 t.msg.id, .bool t.msg.reply, .int .i64 t.msg.op, .bool t.msg.auth, .int .i64 t.msg.code, .slice xq t.msg.qs.length yq, .slice xa t.msg.ans.length ya, .slice xb t.msg.aus.length yb, .slice xm t.msg.more.length ym, .slice xp t.msg.pres.length yp, .slice xu t.msg.ups.length yu, .int .i64 t.ip, .slice xc t.client.length yc, .slice xh t.host.length yh, .int .i64 t.when] 39)
 obtain ⟨d0, d1, d2, d3, d4, d5, d6, d7, d8, d9, d10, d11, d12, d13, d14, d15⟩ := cells16 (heap_alloc_new w (.cells #[.int .i64 KI, .int .i64 t.msg.id, .bool t.msg.reply, .int .i64 t.msg.op, .bool t.msg.auth, .int .i64 t.msg.code, .slice xq t.msg.qs.length yq, .slice xa t.msg.ans.length ya, .slice xb t.msg.aus.length yb, .slice xm t.msg.more.length ym, .slice xp t.msg.pres.length yp, .slice xu t.msg.ups.length yu, .int .i64 t.ip, .slice xc t.client.length yc, .slice xh t.host.length yh, .int .i64 t.when] 39))
 go_enter Tryz.func20, Tryz.ntmps20
 go_wp2_with fail
 go_ret
 exact ⟨rfl, b0⟩

set_option maxHeartbeats 1000000 in
set_option maxRecDepth 100000 in
theorem implTxnOkE {vq va vb vm vp vu vc vh : Value} {t : Tx} {w : World} (h : HasTx w vq va vb vm vp vu vc vh t) (n0 : t.kind ≠ 0) (n1 : t.kind ≠ 1) (n2 : t.kind ≠ 2) (n3 : t.kind ≠ 3) :
  Calls Tryz.prog 19 #[.agg #[.int .i64 t.kind, .int .i64 t.msg.id, .bool t.msg.reply, .int .i64 t.msg.op, .bool t.msg.auth, .int .i64 t.msg.code, vq, va, vb, vm, vp, vu, .int .i64 t.ip, vc, vh, .int .i64 t.when]] w fun e w' => e = .returned (.bool false) ∧ Below w.heap.size w w' := by
 obtain ⟨xq, yq, rfl, _, zq⟩ := h.msg.qs.form
 obtain ⟨xa, ya, rfl, _, za⟩ := h.msg.ans.form
 obtain ⟨xb, yb, rfl, _, zb⟩ := h.msg.aus.form
 obtain ⟨xm, ym, rfl, _, zm⟩ := h.msg.more.form
 obtain ⟨xp, yp, rfl, _, zp⟩ := h.msg.pres.form
 obtain ⟨xu, yu, rfl, _, zu⟩ := h.msg.ups.form
 have hcb := h.client.bound
 have hhb := h.host.bound
 obtain ⟨xc, yc, rfl, _⟩ := h.client.form
 obtain ⟨xh, yh, rfl, _⟩ := h.host.form
 have b0 := below_alloc (w := w) (.cells #[.int .i64 t.kind, .int .i64 t.msg.id, .bool t.msg.reply, .int .i64 t.msg.op, .bool t.msg.auth, .int .i64 t.msg.code, .slice xq t.msg.qs.length yq, .slice xa t.msg.ans.length ya, .slice xb t.msg.aus.length yb, .slice xm t.msg.more.length ym, .slice xp t.msg.pres.length yp, .slice xu t.msg.ups.length yu, .int .i64 t.ip, .slice xc t.client.length yc, .slice xh t.host.length yh, .int .i64 t.when] 39)
 have KK := hide (heap_alloc_new w (.cells #[.int .i64 t.kind, .int .i64 t.msg.id, .bool t.msg.reply, .int .i64 t.msg.op, .bool t.msg.auth, .int .i64 t.msg.code, .slice xq t.msg.qs.length yq, .slice xa t.msg.ans.length ya, .slice xb t.msg.aus.length yb, .slice xm t.msg.more.length ym, .slice xp t.msg.pres.length yp, .slice xu t.msg.ups.length yu, .int .i64 t.ip, .slice xc t.client.length yc, .slice xh t.host.length yh, .int .i64 t.when] 39))
 have CD := hide (fun (w : World) => deedOfE_any (xq := xq) (yq := yq) (xa := xa) (ya := ya) (xb := xb) (yb := yb) (xm := xm) (ym := ym) (xp := xp) (yp := yp) (xu := xu) (yu := yu) (xc := xc) (yc := yc) (xh := xh) (yh := yh) (w := w) n0 n1 n2 n3)
 clear h n0 n1 n2 n3
 obtain ⟨d0, d1, d2, d3, d4, d5, d6, d7, d8, d9, d10, d11, d12, d13, d14, d15⟩ := cells16 (unhide KK)
 go_enter Tryz.func19, Tryz.ntmps19
 go_wp2_with fail
 clear d0 d1 d2 d3 d4 d5 d6 d7 d8 d9 d10 d11 d12 d13 d14 d15
 refine (unhide CD _).mono ?_
 rintro e w1 ⟨rfl, b1⟩
 have bd := below_next b1 (below_drew (w := w1))
 replace b0 := below_next b0 bd
 replace KK := hide (block_kept bd (unhide KK))
 clear b1 bd
 go_wp2_with fail
 refine startF 13 (S := (fun w' => w'.cell? ⟨w.heap.size, 0, none⟩ = some (.int .i64 t.kind) ∧ w'.cell? ⟨w.heap.size, 1, none⟩ = some (.int .i64 t.msg.id) ∧ w'.cell? ⟨w.heap.size, 2, none⟩ = some (.bool t.msg.reply) ∧ w'.cell? ⟨w.heap.size, 3, none⟩ = some (.int .i64 t.msg.op) ∧ w'.cell? ⟨w.heap.size, 4, none⟩ = some (.bool t.msg.auth) ∧ w'.cell? ⟨w.heap.size, 5, none⟩ = some (.int .i64 t.msg.code) ∧ w'.cell? ⟨w.heap.size, 6, none⟩ = some (.slice xq t.msg.qs.length yq) ∧ w'.cell? ⟨w.heap.size, 7, none⟩ = some (.slice xa t.msg.ans.length ya) ∧ w'.cell? ⟨w.heap.size, 8, none⟩ = some (.slice xb t.msg.aus.length yb) ∧ w'.cell? ⟨w.heap.size, 9, none⟩ = some (.slice xm t.msg.more.length ym) ∧ w'.cell? ⟨w.heap.size, 10, none⟩ = some (.slice xp t.msg.pres.length yp) ∧ w'.cell? ⟨w.heap.size, 11, none⟩ = some (.slice xu t.msg.ups.length yu) ∧ w'.cell? ⟨w.heap.size, 12, none⟩ = some (.int .i64 t.ip) ∧ w'.cell? ⟨w.heap.size, 13, none⟩ = some (.slice xc t.client.length yc) ∧ w'.cell? ⟨w.heap.size, 14, none⟩ = some (.slice xh t.host.length yh) ∧ w'.cell? ⟨w.heap.size, 15, none⟩ = some (.int .i64 t.when))) (by kernel_rfl) rfl (cells16 (unhide KK)) (fun hHeld => ?_)
 simp only [List.replicate]
 repeat ((first | (refine tkF ?_ rfl (by kernel_rfl) (by rfl) (fun _ _ _ h => h) ?_ hHeld ?_; rotate_left; · (intro w hSw; (try dsimp only at hSw); go_simp <;> with_reducible rfl)) | refine skF rfl (by kernel_rfl) (by rfl) (fun _ _ _ h => h) hHeld ?_); simp only [Act.put, setF, List.setIfInBounds_toArray, List.set_cons_zero, List.set_cons_succ])
 refine wpAnyH_done (by kernel_rfl) ?_ _
 clear hHeld
 go_wp2_with fail
 go_ret
 exact ⟨rfl, b0⟩

theorem implTxnOk_has {vq va vb vm vp vu vc vh : Value} {t : Tx} {w : World} (h : HasTx w vq va vb vm vp vu vc vh t) (hct : t.msg.count ≤ 1048576) :
  Calls Tryz.prog 19 #[.agg #[.int .i64 t.kind, .int .i64 t.msg.id, .bool t.msg.reply, .int .i64 t.msg.op, .bool t.msg.auth, .int .i64 t.msg.code, vq, va, vb, vm, vp, vu, .int .i64 t.ip, vc, vh, .int .i64 t.when]] w fun e w' => e = .returned (.bool (txOk t)) ∧ Below w.heap.size w w' := by
 by_cases n0 : t.kind = 0
 ·have hR : txOk t = ((okM t.msg && (decide (t.msg.op = 5) && !t.msg.reply)) && (decide (t.client.length = 0) && (decide (t.host.length = 0) && (decide (t.ip = 0) && decide (t.when = 0))))) := by
   unfold txOk
   rw [if_pos n0]
   ac_rfl
  rw [hR, n0]
  exact implTxnOk0 h hct
 by_cases n1 : t.kind = 1
 ·have hR : txOk t = ((ipB t.ip && (clientB t.client && (labelOk t.host && decide (0 ≤ t.when ∧ t.when ≤ 2000000)))) && (emptyM t.msg)) := by
   unfold txOk
   rw [if_neg n0, if_pos n1]
   ac_rfl
  rw [hR, n1]
  exact implTxnOk1 h hct
 by_cases n2 : t.kind = 2
 ·have hR : txOk t = ((ipB t.ip && clientB t.client) && (decide (t.host.length = 0) && (decide (t.when = 0) && emptyM t.msg))) := by
   unfold txOk
   rw [if_neg n0, if_neg n1, if_pos n2]
   ac_rfl
  rw [hR, n2]
  exact implTxnOk2 h hct
 by_cases n3 : t.kind = 3
 ·have hR : txOk t = ((decide (0 ≤ t.when ∧ t.when ≤ 1000000)) && (decide (t.client.length = 0) && (decide (t.host.length = 0) && (decide (t.ip = 0) && emptyM t.msg)))) := by
   unfold txOk
   rw [if_neg n0, if_neg n1, if_neg n2, if_pos n3]
   ac_rfl
  rw [hR, n3]
  exact implTxnOk3 h hct
 have hR : txOk t = false := by
  unfold txOk
  rw [if_neg n0, if_neg n1, if_neg n2, if_neg n3]
 rw [hR]
 exact implTxnOkE h n0 n1 n2 n3
end Go.Proofs.YtfbfakdkemlbmaaGreat

namespace Go.Proofs.YtfbfakdkemlbmaaGreat
open Go.RowKit
set_option linter.unusedVariables false

/-- What stands behind the byte of the kind. -/
def txBody (t : Tx) : List Int :=
 if t.kind = 0 then bytesM t.msg
 else if t.kind = 1 then put32 ((put32 [] t.ip ++ ((t.client.length : Int) :: t.client)) ++ ((t.host.length : Int) :: t.host)) t.when
 else if t.kind = 2 then put32 [] t.ip ++ ((t.client.length : Int) :: t.client)
 else put32 [] t.when
/-- What TxnBytes answers. -/
def txPut (t : Tx) : List Int × Bool := if txOk t = true then (t.kind :: txBody t, true) else ([], false)
theorem put32_cons (k : Int) (l : List Int) (n : Int) : put32 (k :: l) n = k :: put32 l n := by
 unfold put32
 split <;> simp
theorem txBody0 {t : Tx} (h : t.kind = 0) : txBody t = bytesM t.msg := by unfold txBody; rw [if_pos h]
theorem txBody1 {t : Tx} (h : t.kind = 1) : txBody t = put32 ((put32 [] t.ip ++ ((t.client.length : Int) :: t.client)) ++ ((t.host.length : Int) :: t.host)) t.when := by unfold txBody; rw [if_neg (by rw [h]; decide), if_pos h]
theorem txBody2 {t : Tx} (h : t.kind = 2) : txBody t = put32 [] t.ip ++ ((t.client.length : Int) :: t.client) := by unfold txBody; rw [if_neg (by rw [h]; decide), if_neg (by rw [h]; decide), if_pos h]
theorem txBody3 {t : Tx} (h : t.kind = 3) : txBody t = put32 [] t.when := by unfold txBody; rw [if_neg (by rw [h]; decide), if_neg (by rw [h]; decide), if_neg (by rw [h]; decide)]
theorem txOk_kind {t : Tx} (h : txOk t = true) : t.kind = 0 ∨ t.kind = 1 ∨ t.kind = 2 ∨ t.kind = 3 := by
 by_cases n0 : t.kind = 0
 ·exact .inl n0
 by_cases n1 : t.kind = 1
 ·exact .inr (.inl n1)
 by_cases n2 : t.kind = 2
 ·exact .inr (.inr (.inl n2))
 by_cases n3 : t.kind = 3
 ·exact .inr (.inr (.inr n3))
 ·unfold txOk at h
  rw [if_neg n0, if_neg n1, if_neg n2, if_neg n3] at h
  cases h
theorem txOk0 {t : Tx} (h : txOk t = true) (hk : t.kind = 0) : okM t.msg = true := by
 unfold txOk at h
 rw [if_pos hk] at h
 simp only [Bool.and_eq_true] at h
 exact h.1
theorem txOk1 {t : Tx} (h : txOk t = true) (hk : t.kind = 1) : t.client.length ≤ 16 ∧ t.host.length ≤ 15 := by
 unfold txOk clientB at h
 rw [if_neg (by rw [hk]; decide), if_pos hk] at h
 simp only [Bool.and_eq_true, decide_eq_true_eq] at h
 exact ⟨h.2.2.1.2, (labelOk_length h.2.2.2.1).2⟩
theorem txOk2 {t : Tx} (h : txOk t = true) (hk : t.kind = 2) : t.client.length ≤ 16 := by
 unfold txOk clientB at h
 rw [if_neg (by rw [hk]; decide), if_neg (by rw [hk]; decide), if_pos hk] at h
 simp only [Bool.and_eq_true, decide_eq_true_eq] at h
 exact h.2.2.1.2
theorem txPut_yes {t : Tx} (h : txOk t = true) : txPut t = (t.kind :: txBody t, true) := by unfold txPut; rw [if_pos h]
theorem txPut_no {t : Tx} (h : txOk t = false) : txPut t = ([], false) := by unfold txPut; rw [if_neg (by rw [h]; decide)]
theorem okM_len {m : Mg} (h : okM m = true) : (bytesM m).length ≤ 512 := by
 unfold okM at h
 simp only [Bool.and_eq_true, decide_eq_true_eq] at h
 exact h.2
theorem txBody_len {t : Tx} (h : txOk t = true) : (txBody t).length ≤ 600 := by
 rcases txOk_kind h with hk | hk | hk | hk
 ·rw [txBody0 hk]
  have := okM_len (txOk0 h hk)
  omega
 ·rw [txBody1 hk]
  obtain ⟨h1, h2⟩ := txOk1 h hk
  have e1 := put32_length [] t.ip
  have e2 := put32_length ((put32 [] t.ip ++ ((t.client.length : Int) :: t.client)) ++ ((t.host.length : Int) :: t.host)) t.when
  simp only [List.length_append, List.length_cons, List.length_nil] at e1 e2
  omega
 ·rw [txBody2 hk]
  have h1 := txOk2 h hk
  have e1 := put32_length [] t.ip
  simp only [List.length_append, List.length_cons, List.length_nil] at e1 ⊢
  omega
 ·rw [txBody3 hk]
  have e1 := put32_length [] t.when
  simp only [List.length_nil] at e1
  omega
theorem txPut_length (t : Tx) : (txPut t).1.length ≤ 601 := by
 cases h : txOk t with
 | true => rw [txPut_yes h]; have := txBody_len h; simp only [List.length_cons]; omega
 | false => rw [txPut_no h]; simp
end Go.Proofs.YtfbfakdkemlbmaaGreat

namespace Go.Proofs.YtfbfakdkemlbmaaGreat
open Go.RowKit
set_option linter.unusedVariables false

def flagF : Value → Option Bool
 | .bool b => some b
 | _ => none
def valF : Option Bool → Value
 | some b => .bool b
 | none => undef
/-- A temporary's flag: what was put last, else what stood there. -/
def lookF (tm : Array Value) : List (Nat × Option Bool) → Nat → Option Bool
 | [], d => match tm[d]? with | some v => flagF v | none => none
 | (e, b) :: m, d => if Nat.beq e d then b else lookF tm m d
def FlagsF (tm : Array Value) (m : List (Nat × Option Bool)) (tm' : Array Value) : Prop := tm'.size = tm.size ∧ ∀ d, lookF tm m d = match tm'[d]? with | some v => flagF v | none => none
theorem FlagsF.nil (tm : Array Value) : FlagsF tm [] tm := ⟨rfl, fun d => rfl⟩
theorem flagF_val (b : Option Bool) : flagF (valF b) = b := by rcases b with _ | b <;> rfl
theorem FlagsF.cons {tm tm' : Array Value} {m : List (Nat × Option Bool)} (h : FlagsF tm m tm') {d : Nat} (hd : d < tm.size) (b : Option Bool) :
  FlagsF tm ((d, b) :: m) (tm'.setIfInBounds d (valF b)) := by
 refine ⟨by rw [Array.size_setIfInBounds]; exact h.1, fun e => ?_⟩
 simp only [lookF]
 by_cases q : d = e
 ·subst q
  rw [if_pos (Nat.beq_refl d), Array.getElem?_setIfInBounds_self_of_lt (by rw [h.1]; exact hd)]
  exact (flagF_val b).symm
 ·rw [if_neg (by rw [Nat.beq_eq]; exact q), Array.getElem?_setIfInBounds_ne q]
  exact h.2 e
def callsA : Op → Bool
 | .call c => match c.callee with | .builtin _ => false | _ => true
 | _ => false
/-- The first i of n are listed. -/
def upA (i n : Nat) : Array Bool := ((List.range n).map (fun j => decide (j < i))).toArray
theorem upA_get {i n j : Nat} {d : Bool} (hj : j < n) : (upA i n).getD j d = decide (j < i) := by
 unfold upA
 simp [Array.getD_eq_getD_getElem?, hj]
theorem upA_out {i n j : Nat} {d : Bool} (hj : n ≤ j) : (upA i n).getD j d = d := by
 unfold upA
 simp [Array.getD_eq_getD_getElem?, hj]
def ascL (md : Region.Mode) (ops : Array Oper) : Nat → List Oper → Bool
 | _, [] => true
 | i, oi :: rest => oi.after.all (fun e => !Region.binds md e || Nat.blt e.on i) && (rest.all (fun oj => oj.after.any (fun e => Region.binds md e && Nat.beq e.on i) || oi.apart ops oj) && ascL md ops (i + 1) rest)
def soleL (md : Region.Mode) (i : Nat) (l : List Oper) : Bool := l.all (fun oj => oj.after.any (fun e => Region.binds md e && Nat.ble i e.on))
/-- The order of the numbers is one that may be. -/
structure AscA (md : Region.Mode) (ops : Array Oper) : Prop where
 sel : Region.noSelect ops = true
 asc : ascL md ops 0 ops.toList = true
theorem ascL_drop {md : Region.Mode} {ops : Array Oper} : ∀ (l : List Oper) (k i : Nat), ascL md ops k l = true → ascL md ops (k + i) (l.drop i) = true
 | l, k, 0, h => h
 | [], k, i + 1, h => rfl
 | o :: l, k, i + 1, h => by
  unfold ascL at h
  simp only [Bool.and_eq_true] at h
  have := ascL_drop l (k + 1) i h.2.2
  rwa [Nat.add_assoc, Nat.add_comm 1 i] at this
section
variable {P : Program} {ops : Array Oper} {Q : Exit → Act → World → Prop} {md : Region.Mode} {S : World → Prop}
theorem size_of_drop {i : Nat} {oi : Oper} {rest : List Oper} (hi : ops.toList.drop i = oi :: rest) : i < ops.size := by
 have := congrArg List.length hi
 simp only [List.length_drop, List.length_cons, Array.length_toList] at this
 omega
theorem AscA.at_ (h : AscA md ops) {i : Nat} {oi : Oper} {rest : List Oper} (hi : ops.toList.drop i = oi :: rest) :
  (∀ e ∈ oi.after, Region.binds md e = true → e.on < i) ∧ ∀ (j : Nat) (oj : Oper), i < j → ops[j]? = some oj → (∃ e ∈ oj.after, Region.binds md e = true ∧ e.on = i) ∨ oi.apart ops oj = true := by
 have h2 := ascL_drop ops.toList 0 i h.asc
 rw [hi, Nat.zero_add] at h2
 unfold ascL at h2
 simp only [Bool.and_eq_true, Array.all_eq_true', Bool.or_eq_true, Bool.not_eq_true', List.all_eq_true] at h2
 refine ⟨fun e he hb => ?_, fun j oj hij hj => ?_⟩
 ·rcases h2.1 e he with q | q
  ·rw [hb] at q; cases q
  ·simpa [Nat.blt_eq] using q
 ·have hm : oj ∈ rest := by
   have e1 : ops.toList[j]? = some oj := by rw [Array.getElem?_toList]; exact hj
   obtain ⟨k, rfl⟩ : ∃ k, j = i + 1 + k := ⟨j - (i + 1), by omega⟩
   have e2 : (ops.toList.drop i)[k + 1]? = some oj := by rw [List.getElem?_drop, show i + (k + 1) = i + 1 + k by omega]; exact e1
   rw [hi, List.getElem?_cons_succ] at e2
   exact List.mem_of_getElem? e2
  rcases h2.2.1 oj hm with q | q
  ·obtain ⟨e, he, hb⟩ := Array.any_eq_true'.1 q
   simp only [Bool.and_eq_true] at hb
   exact .inl ⟨e, he, hb.1, Nat.eq_of_beq_eq_true hb.2⟩
  ·exact .inr q
theorem AscA.free (h : AscA md ops) {i : Nat} {oi : Oper} {rest : List Oper} (hi : ops.toList.drop i = oi :: rest) : Region.free md ops (upA i ops.size) i = true := by
 unfold Region.free
 rw [ops_drop hi]
 simp only [List.all_eq_true, List.mem_range, Bool.or_eq_true]
 intro j hj
 by_cases q : j ≤ i
 ·by_cases e : j = i
  ·exact .inl (.inl (by simpa using e))
  ·refine .inl (.inr ?_)
   rw [upA_get hj]
   exact decide_eq_true (by omega)
 ·obtain ⟨oj, hoj⟩ : ∃ oj, ops[j]? = some oj := ⟨ops[j], by simp [hj]⟩
  rw [hoj]
  simp only [Bool.or_eq_true]
  refine .inr ?_
  rcases (h.at_ hi).2 j oj (by omega) hoj with ⟨e, he, hb, hon⟩ | q
  ·exact .inl (Array.any_eq_true'.2 ⟨e, he, by rw [hb, hon]; simp⟩)
  ·exact .inr q
theorem AscA.ready_at (h : AscA md ops) {i : Nat} {oi : Oper} {rest : List Oper} (hi : ops.toList.drop i = oi :: rest) {j : Nat} : j ∈ Region.ready md ops (upA i ops.size) ↔
  j < ops.size ∧ i ≤ j ∧ ∀ oj, ops[j]? = some oj → ∀ e ∈ oj.after, Region.binds md e = true → e.on < i := by
 have hin := size_of_drop hi
 unfold Region.ready
 simp only [List.mem_filter, List.mem_range, Bool.and_eq_true, Bool.not_eq_true']
 constructor
 ·rintro ⟨hj, h1, h2⟩
  rw [upA_get hj] at h1
  refine ⟨hj, by simpa using h1, fun oj hoj e he hb => ?_⟩
  rw [hoj] at h2
  simp only [Option.map_some, Option.getD_some, Array.all_eq_true', Bool.or_eq_true, Bool.not_eq_true'] at h2
  rcases h2 e he with q | q
  ·rw [hb] at q; cases q
  ·by_cases hs : e.on < ops.size
   ·rw [upA_get hs] at q
    exact of_decide_eq_true q
   ·rw [upA_out (by omega)] at q
    cases q
 ·rintro ⟨hj, h1, h2⟩
  refine ⟨hj, by rw [upA_get hj]; exact decide_eq_false (by omega), ?_⟩
  have hoj : ops[j]? = some ops[j] := by simp [hj]
  rw [hoj]
  simp only [Option.map_some, Option.getD_some, Array.all_eq_true', Bool.or_eq_true, Bool.not_eq_true']
  intro e he
  by_cases hb : Region.binds md e = true
  ·refine .inr ?_
   have := h2 _ hoj e he hb
   rw [upA_get (by omega)]
   exact decide_eq_true this
  ·exact .inl (by simpa using hb)
theorem AscA.ready (h : AscA md ops) {i : Nat} {oi : Oper} {rest : List Oper} (hi : ops.toList.drop i = oi :: rest) : (Region.ready md ops (upA i ops.size)).contains i = true := by
 rw [List.contains_iff_mem]
 exact (h.ready_at hi).2 ⟨size_of_drop hi, Nat.le_refl _, fun oj hoj => by rw [ops_drop hi] at hoj; cases hoj; exact (h.at_ hi).1⟩
theorem filter_one {p : Nat → Bool} {n i : Nat} (hi : i < n) (hp : p i = true) (hn : ∀ j, j < n → j ≠ i → p j = false) : (List.range n).filter p = [i] := by
 induction n with
 | zero => omega
 | succ n ih =>
  rw [List.range_succ, List.filter_append]
  by_cases e : i = n
  ·subst e
   rw [List.filter_eq_nil_iff.2 (fun j hj => by rw [hn j (by have := List.mem_range.1 hj; omega) (by have := List.mem_range.1 hj; omega)]; simp)]
   simp [hp]
  ·rw [ih (by omega) (fun j hj hne => hn j (by omega) hne)]
   simp [hn n (by omega) (by omega)]
theorem AscA.sole (h : AscA md ops) {i : Nat} {oi : Oper} {rest : List Oper} (hi : ops.toList.drop i = oi :: rest) (hs : soleL md i rest = true) : Region.ready md ops (upA i ops.size) = [i] := by
 have hin := size_of_drop hi
 have hm := h.ready hi
 rw [List.contains_iff_mem] at hm
 have hnot : ∀ j, j ≠ i → j ∉ Region.ready md ops (upA i ops.size) := fun j hne hj => by
  obtain ⟨hj1, hj2, hj3⟩ := (h.ready_at hi).1 hj
  have hoj : ops[j]? = some ops[j] := by simp [hj1]
  have hmem : ops[j] ∈ rest := by
   obtain ⟨k, rfl⟩ : ∃ k, j = i + 1 + k := ⟨j - (i + 1), by omega⟩
   have e2 : (ops.toList.drop i)[k + 1]? = some ops[i + 1 + k] := by rw [List.getElem?_drop, show i + (k + 1) = i + 1 + k by omega, Array.getElem?_toList]; exact hoj
   rw [hi, List.getElem?_cons_succ] at e2
   exact List.mem_of_getElem? e2
  unfold soleL at hs
  rw [List.all_eq_true] at hs
  obtain ⟨e, he, hb⟩ := Array.any_eq_true'.1 (hs _ hmem)
  simp only [Bool.and_eq_true] at hb
  have := hj3 _ hoj e he hb.1
  have := Nat.le_of_ble_eq_true hb.2
  omega
 have hx : ∀ j, j ∈ Region.ready md ops (upA i ops.size) → j = i := fun j hj => Classical.byContradiction (fun q => hnot j q hj)
 unfold Region.ready at hm hx ⊢
 refine filter_one hin (List.mem_filter.1 hm).2 (fun j hj hne => ?_)
 rw [Bool.eq_false_iff]
 intro q
 exact hne (hx j (List.mem_filter.2 ⟨List.mem_range.2 hj, q⟩))
end
end Go.Proofs.YtfbfakdkemlbmaaGreat

namespace Go.Proofs.YtfbfakdkemlbmaaGreat
open Go.RowKit
set_option linter.unusedVariables false

/-- The first i of an order are listed. -/
def upO (ord : List Nat) (i n : Nat) : Array Bool := ((List.range n).map (fun j => (ord.take i).contains j)).toArray
theorem upO_get {ord : List Nat} {i n j : Nat} {d : Bool} (hj : j < n) : (upO ord i n).getD j d = (ord.take i).contains j := by
 unfold upO
 simp [Array.getD_eq_getD_getElem?, hj]
theorem upO_out {ord : List Nat} {i n j : Nat} {d : Bool} (hj : n ≤ j) : (upO ord i n).getD j d = d := by
 unfold upO
 simp [Array.getD_eq_getD_getElem?, hj]
theorem take_next {α : Type} {l rest : List α} {i : Nat} {k : α} (h : l.drop i = k :: rest) : l.take (i + 1) = l.take i ++ [k] := by
 have hi : i < l.length := by
  have := congrArg List.length h
  simp only [List.length_drop, List.length_cons] at this
  omega
 rw [List.take_succ_eq_append_getElem hi]
 have : l[i] = k := by
  have := congrArg (fun x => x[0]?) h
  simp only [List.getElem?_drop, Nat.add_zero, List.getElem?_cons_zero] at this
  rw [List.getElem?_eq_getElem hi] at this
  exact Option.some.inj this
 rw [this]
theorem upO_set {ord rest : List Nat} {i n k : Nat} (h : ord.drop i = k :: rest) (hk : k < n) : (upO ord i n).setIfInBounds k true = upO ord (i + 1) n := by
 unfold upO
 rw [List.setIfInBounds_toArray, take_next h]
 congr 1
 refine List.ext_getElem (by simp) (fun j h1 h2 => ?_)
 simp only [List.length_set, List.length_map, List.length_range] at h1
 simp only [List.getElem_set, List.getElem_map, List.getElem_range]
 split
 ·subst_vars; simp
 ·rename_i h
  rw [Bool.eq_iff_iff, List.contains_iff_mem, List.contains_iff_mem, List.mem_append]
  simp [Ne.symm h]
theorem upO_zero (ord : List Nat) (n : Nat) : Array.replicate n false = upO ord 0 n := by
 unfold upO
 rw [← List.toArray_replicate]
 congr 1
 refine List.ext_getElem (by simp) (fun j h1 h2 => ?_)
 simp
def memN (k : Nat) : List Nat → Bool
 | [] => false
 | j :: l => if Nat.beq j k then true else memN k l
theorem memN_iff {k : Nat} : ∀ {l : List Nat}, memN k l = true ↔ k ∈ l
 | [] => by simp [memN]
 | j :: l => by
  unfold memN
  by_cases h : j = k
  ·subst h; simp
  ·rw [if_neg (by rw [Nat.beq_eq]; exact h), memN_iff]
   simp [Ne.symm h]
def waitsO (md : Region.Mode) (k : Nat) (oj : Oper) : Bool := oj.after.any (fun e => Region.binds md e && Nat.beq e.on k)
def ascO (md : Region.Mode) (ops : Array Oper) : List Nat → List Nat → Bool
 | _, [] => true
 | done, k :: rest => match ops[k]? with
  | some ok => ok.after.all (fun e => !Region.binds md e || memN e.on done) && (!memN k done && (rest.all (fun j => match ops[j]? with | some oj => waitsO md k oj || ok.apart ops oj | none => false) && ascO md ops (k :: done) rest))
  | none => false
def soleO (md : Region.Mode) (ops : Array Oper) (done rest : List Nat) : Bool := rest.all (fun j => match ops[j]? with | some oj => oj.after.any (fun e => Region.binds md e && !memN e.on done) | none => false)
/-- The order is one that may be. -/
structure OrdO (md : Region.Mode) (ops : Array Oper) (ord : List Nat) : Prop where
 sel : Region.noSelect ops = true
 len : Nat.beq ord.length ops.size = true
 all : (List.range ops.size).all (fun j => memN j ord) = true
 asc : ascO md ops [] ord = true
theorem ascO_drop {md : Region.Mode} {ops : Array Oper} : ∀ (l done : List Nat) (i : Nat), ascO md ops done l = true → ascO md ops ((l.take i).reverse ++ done) (l.drop i) = true
 | l, done, 0, h => by simpa using h
 | [], done, i + 1, h => rfl
 | o :: l, done, i + 1, h => by
  unfold ascO at h
  split at h
  ·simp only [Bool.and_eq_true] at h
   have := ascO_drop l (o :: done) i h.2.2.2
   simpa using this
  ·cases h
section
variable {P : Program} {ops : Array Oper} {ord : List Nat} {Q : Exit → Act → World → Prop} {md : Region.Mode} {S : World → Prop}
theorem OrdO.at_ (h : OrdO md ops ord) {i k : Nat} {ok : Oper} {rest : List Nat} (hi : ord.drop i = k :: rest) (hk : ops[k]? = some ok) :
  (∀ e ∈ ok.after, Region.binds md e = true → e.on ∈ ord.take i) ∧ k ∉ ord.take i ∧ ∀ j ∈ rest, ∃ oj, ops[j]? = some oj ∧ ((∃ e ∈ oj.after, Region.binds md e = true ∧ e.on = k) ∨ ok.apart ops oj = true) := by
 have h2 := ascO_drop ord [] i h.asc
 rw [hi, List.append_nil] at h2
 unfold ascO at h2
 rw [hk] at h2
 simp only [Bool.and_eq_true, Array.all_eq_true', Bool.or_eq_true, Bool.not_eq_true', List.all_eq_true] at h2
 obtain ⟨q1, q2, q3, _⟩ := h2
 refine ⟨fun e he hb => ?_, fun hm => ?_, fun j hj => ?_⟩
 ·rcases q1 e he with q | q
  ·rw [hb] at q; cases q
  ·simpa using memN_iff.1 q
 ·have := (memN_iff (k := k) (l := (ord.take i).reverse)).2 (by simpa using hm)
  rw [this] at q2
  cases q2
 ·have := q3 j hj
  split at this
  ·rename_i oj hoj
   refine ⟨oj, hoj, ?_⟩
   rw [Bool.or_eq_true] at this
   rcases this with q | q
   ·obtain ⟨e, he, hb⟩ := Array.any_eq_true'.1 q
    simp only [Bool.and_eq_true] at hb
    exact .inl ⟨e, he, hb.1, Nat.eq_of_beq_eq_true hb.2⟩
   ·exact .inr q
  ·cases this
theorem OrdO.where_ (h : OrdO md ops ord) {i k : Nat} {rest : List Nat} (hi : ord.drop i = k :: rest) {j : Nat} (hj : j < ops.size) : j ∈ ord.take i ∨ j = k ∨ j ∈ rest := by
 have h1 := h.all
 rw [List.all_eq_true] at h1
 have h2 := memN_iff.1 (h1 j (List.mem_range.2 hj))
 rw [← List.take_append_drop i ord, hi, List.mem_append, List.mem_cons] at h2
 exact h2
theorem some_lt {k : Nat} {ok : Oper} (hk : ops[k]? = some ok) : k < ops.size := (Array.getElem?_eq_some_iff.1 hk).1
theorem OrdO.free (h : OrdO md ops ord) {i k : Nat} {ok : Oper} {rest : List Nat} (hi : ord.drop i = k :: rest) (hk : ops[k]? = some ok) : Region.free md ops (upO ord i ops.size) k = true := by
 unfold Region.free
 rw [hk]
 simp only [List.all_eq_true, List.mem_range, Bool.or_eq_true]
 intro j hj
 rcases h.where_ hi hj with q | q | q
 ·exact .inl (.inr (by rw [upO_get hj]; exact List.contains_iff_mem.2 q))
 ·exact .inl (.inl (by simpa using q))
 ·obtain ⟨oj, hoj, hd⟩ := (h.at_ hi hk).2.2 j q
  rw [hoj]
  refine .inr ?_
  simp only [Bool.or_eq_true]
  rcases hd with ⟨e, he, hb, hon⟩ | q
  ·exact .inl (Array.any_eq_true'.2 ⟨e, he, by rw [hb, hon]; simp⟩)
  ·exact .inr q
theorem ready_memO {i : Nat} {j : Nat} : j ∈ Region.ready md ops (upO ord i ops.size) ↔
  j < ops.size ∧ j ∉ ord.take i ∧ ∀ oj, ops[j]? = some oj → ∀ e ∈ oj.after, Region.binds md e = true → e.on ∈ ord.take i ∧ e.on < ops.size := by
 unfold Region.ready
 simp only [List.mem_filter, List.mem_range, Bool.and_eq_true, Bool.not_eq_true']
 constructor
 ·rintro ⟨hj, h1, h2⟩
  rw [upO_get hj] at h1
  refine ⟨hj, (fun q => by rw [List.contains_iff_mem.2 q] at h1; cases h1), fun oj hoj e he hb => ?_⟩
  rw [hoj] at h2
  simp only [Option.map_some, Option.getD_some, Array.all_eq_true', Bool.or_eq_true, Bool.not_eq_true'] at h2
  rcases h2 e he with q | q
  ·rw [hb] at q; cases q
  ·by_cases hs : e.on < ops.size
   ·rw [upO_get hs] at q
    exact ⟨List.contains_iff_mem.1 q, hs⟩
   ·rw [upO_out (by omega)] at q
    cases q
 ·rintro ⟨hj, h1, h2⟩
  refine ⟨hj, by rw [upO_get hj, Bool.eq_false_iff]; exact fun q => h1 (List.contains_iff_mem.1 q), ?_⟩
  have hoj : ops[j]? = some ops[j] := by simp [hj]
  rw [hoj]
  simp only [Option.map_some, Option.getD_some, Array.all_eq_true', Bool.or_eq_true, Bool.not_eq_true']
  intro e he
  by_cases hb : Region.binds md e = true
  ·obtain ⟨q1, q2⟩ := h2 _ hoj e he hb
   exact .inr (by rw [upO_get q2]; exact List.contains_iff_mem.2 q1)
  ·exact .inl (by simpa using hb)
theorem OrdO.in_size (h : OrdO md ops ord) {i : Nat} : ∀ k ∈ ord.take i, k < ops.size := by
 induction i with
 | zero => intro k hk; simp at hk
 | succ i ih =>
  intro k hk
  cases hd : ord.drop i with
  | nil =>
   have : ord.take (i + 1) = ord.take i := by
    have hl := congrArg List.length hd
    simp only [List.length_drop, List.length_nil] at hl
    rw [List.take_of_length_le (by omega), List.take_of_length_le (by omega)]
   rw [this] at hk
   exact ih k hk
  | cons k' rest =>
   rw [take_next hd, List.mem_append] at hk
   rcases hk with hk | hk
   ·exact ih k hk
   ·simp only [List.mem_cons, List.not_mem_nil, or_false] at hk
    subst hk
    have h2 := ascO_drop ord [] i h.asc
    rw [hd] at h2
    unfold ascO at h2
    split at h2
    ·rename_i ok hok; exact some_lt hok
    ·cases h2
theorem OrdO.ready (h : OrdO md ops ord) {i k : Nat} {ok : Oper} {rest : List Nat} (hi : ord.drop i = k :: rest) (hk : ops[k]? = some ok) : (Region.ready md ops (upO ord i ops.size)).contains k = true := by
 rw [List.contains_iff_mem]
 obtain ⟨q1, q2, _⟩ := h.at_ hi hk
 exact ready_memO.2 ⟨some_lt hk, q2, fun oj hoj e he hb => by rw [hk] at hoj; cases hoj; exact ⟨q1 e he hb, h.in_size _ (q1 e he hb)⟩⟩
theorem OrdO.sole (h : OrdO md ops ord) {i k : Nat} {ok : Oper} {rest : List Nat} (hi : ord.drop i = k :: rest) (hk : ops[k]? = some ok) (hs : soleO md ops (ord.take i) rest = true) : Region.ready md ops (upO ord i ops.size) = [k] := by
 have hm := h.ready hi hk
 rw [List.contains_iff_mem] at hm
 have hx : ∀ j, j ∈ Region.ready md ops (upO ord i ops.size) → j = k := fun j hj => Classical.byContradiction (fun hne => by
  obtain ⟨hj1, hj2, hj3⟩ := ready_memO.1 hj
  rcases h.where_ hi hj1 with q | q | q
  ·exact hj2 q
  ·exact hne q
  ·unfold soleO at hs
   rw [List.all_eq_true] at hs
   have h1 := hs j q
   split at h1
   ·rename_i oj hoj
    obtain ⟨e, he, hb⟩ := Array.any_eq_true'.1 h1
    simp only [Bool.and_eq_true, Bool.not_eq_true'] at hb
    have := memN_iff.2 (hj3 oj hoj e he hb.1).1
    rw [this] at hb
    cases hb.2
   ·cases h1)
 unfold Region.ready at hm hx ⊢
 refine filter_one (some_lt hk) (List.mem_filter.1 hm).2 (fun j hj hne => ?_)
 rw [Bool.eq_false_iff]
 intro q
 exact hne (hx j (List.mem_filter.2 ⟨List.mem_range.2 hj, q⟩))
theorem OrdO.lt (h : OrdO md ops ord) {i k : Nat} {rest : List Nat} (hi : ord.drop i = k :: rest) : i < ops.size := by
 have h1 := Nat.eq_of_beq_eq_true h.len
 have := congrArg List.length hi
 simp only [List.length_drop, List.length_cons] at this
 omega
end
end Go.Proofs.YtfbfakdkemlbmaaGreat
