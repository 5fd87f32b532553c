/-
  Contracts of the program's flagsOf, putHead, putQuestion, inClass, putWant, putSections. Plain facts: a row of structs that is appended to, the lists of its structs lying where they lay. No program is named here.
-/
import Derived.Test.YtbabmdiklefgcaaGreatDoorFnRepliesG26
import Derived.Test.YtbabmdiklefgcaaGreatDoorFnRepliesG27
import Derived.Test.YtbabmdiklefgcaaGreatDoorFnRepliesG14
import Derived.Deep.RegionHeld3
import Derived.Test.YtbabmdiklefgcaaGreatDoorFnRepliesG04
namespace Go.Proofs.YtbabmdiklefgcaaGreatDoor
open Go.RowKit
set_option linter.unusedVariables false
set_option maxHeartbeats 1000000
set_option maxRecDepth 100000

theorem wrap_int' (x : Int) (h0 : 0 ≤ x) (h1 : x < 9223372036854775808) : IntKind.i64.wrap x = x := by
 have := wrap_small x.toNat (by omega)
 rwa [Int.toNat_of_nonneg h0] at this
theorem index6_0 (a b c d e f : Value) (w : World) : (Instr.index 116 (.agg #[a, b, c, d, e, f]) (.int .i64 0)).run Tryz.prog w = .ok a w := by kernel_rfl
theorem index6_1 (a b c d e f : Value) (w : World) : (Instr.index 116 (.agg #[a, b, c, d, e, f]) (.int .i64 1)).run Tryz.prog w = .ok b w := by kernel_rfl
theorem index6_2 (a b c d e f : Value) (w : World) : (Instr.index 116 (.agg #[a, b, c, d, e, f]) (.int .i64 2)).run Tryz.prog w = .ok c w := by kernel_rfl
theorem index6_3 (a b c d e f : Value) (w : World) : (Instr.index 116 (.agg #[a, b, c, d, e, f]) (.int .i64 3)).run Tryz.prog w = .ok d w := by kernel_rfl
theorem index6_4 (a b c d e f : Value) (w : World) : (Instr.index 116 (.agg #[a, b, c, d, e, f]) (.int .i64 4)).run Tryz.prog w = .ok e w := by kernel_rfl
theorem index6_5 (a b c d e f : Value) (w : World) : (Instr.index 116 (.agg #[a, b, c, d, e, f]) (.int .i64 5)).run Tryz.prog w = .ok f w := by kernel_rfl

def numsM (m : Mg) : List Int := [m.id, flagsM m, 1, firstM m, secondM m, m.more.length]
def headK (m : Mg) (k : Nat) : List Int := ((numsM m).take k).foldl put16 []
theorem headK_all (m : Mg) : headK m 6 = headM m := rfl
theorem headK_length (m : Mg) : ∀ k, (headK m k).length ≤ 2 * k
 | 0 => by simp [headK]
 | k + 1 => by
  by_cases hk : k < (numsM m).length
  ·have e : headK m (k + 1) = put16 (headK m k) ((numsM m)[k]) := by
    unfold headK
    rw [List.take_succ_eq_append_getElem hk, List.foldl_append]
    rfl
   rw [e]
   have h1 := put16_length (headK m k) ((numsM m)[k])
   have h2 := headK_length m k
   omega
  ·have e : headK m (k + 1) = headK m k := by unfold headK; rw [List.take_of_length_le (by omega), List.take_of_length_le (by omega)]
   rw [e]
   have := headK_length m k
   omega

theorem flagsOf_has {vq va vb vm vp vu : Value} {m : Mg} {w : World} (h : HasM w vq va vb vm vp vu m) (ho : m.op = 0 ∨ m.op = 5) (hc0 : 0 ≤ m.code) (hc1 : m.code ≤ 10) :
  Calls Tryz.prog 85 #[.agg #[.int .i64 m.id, .bool m.reply, .int .i64 m.op, .bool m.auth, .int .i64 m.code, vq, va, vb, vm, vp, vu]] w fun e w' => e = .returned (.int .i64 (flagsM m)) ∧ Below w.heap.size w w' := by
 obtain ⟨xq, yq, rfl, _, zq⟩ := h.qs.form
 obtain ⟨xa, ya, rfl, _, za⟩ := h.ans.form
 obtain ⟨xb, yb, rfl, _, zb⟩ := h.aus.form
 obtain ⟨xm, ym, rfl, _, zm⟩ := h.more.form
 obtain ⟨xp, yp, rfl, _, zp⟩ := h.pres.form
 obtain ⟨xu, yu, rfl, _, zu⟩ := h.ups.form
 have b0 := UI (w := w) (.cells #[.int .i64 m.id, .bool m.reply, .int .i64 m.op, .bool m.auth, .int .i64 m.code, .slice xq m.qs.length yq, .slice xa m.ans.length ya, .slice xb m.aus.length yb, .slice xm m.more.length ym, .slice xp m.pres.length yp, .slice xu m.ups.length yu] 27)
 have KK := UC (heap_alloc_new w (.cells #[.int .i64 m.id, .bool m.reply, .int .i64 m.op, .bool m.auth, .int .i64 m.code, .slice xq m.qs.length yq, .slice xa m.ans.length ya, .slice xb m.aus.length yb, .slice xm m.more.length ym, .slice xp m.pres.length yp, .slice xu m.ups.length yu] 27))
 obtain ⟨d0, d1, d2, d3, d4, d5, d6, d7, d8, d9, d10⟩ := cells11 (UB KK)
 have hF := UC (show flagsM m = 2048 * m.op + m.code + (if m.reply = true then 32768 else 0) + (if m.auth = true then 1024 else 0) from rfl)
 have h1 : IntKind.i64.wrap (2048 * m.op) = 2048 * m.op := wrap_int' _ (by omega) (by omega)
 have h2 : IntKind.i64.wrap (2048 * m.op + m.code) = 2048 * m.op + m.code := wrap_int' _ (by omega) (by omega)
 have h3 : IntKind.i64.wrap (2048 * m.op + m.code + 32768) = 2048 * m.op + m.code + 32768 := wrap_int' _ (by omega) (by omega)
 have h4 : IntKind.i64.wrap (2048 * m.op + m.code + 32768 + 1024) = 2048 * m.op + m.code + 32768 + 1024 := wrap_int' _ (by omega) (by omega)
 have h5 : IntKind.i64.wrap (2048 * m.op + m.code + 1024) = 2048 * m.op + m.code + 1024 := wrap_int' _ (by omega) (by omega)
 generalize flagsM m = F at *
 generalize m.reply = R at *
 generalize m.auth = A at *
 generalize m.op = O at *
 clear h ho
 cases R with
 | true =>
  cases A with
  | true =>
   go_enter Tryz.func85, Tryz.ntmps85
   go_wp2_with fail
   go_ret
   exact ⟨ret_int (by have := UB hF; simp at this; omega), b0⟩
  | false =>
   go_enter Tryz.func85, Tryz.ntmps85
   go_wp2_with fail
   go_ret
   exact ⟨ret_int (by have := UB hF; simp at this; omega), b0⟩
 | false =>
  cases A with
  | true =>
   go_enter Tryz.func85, Tryz.ntmps85
   go_wp2_with fail
   go_ret
   exact ⟨ret_int (by have := UB hF; simp at this; omega), b0⟩
  | false =>
   go_enter Tryz.func85, Tryz.ntmps85
   go_wp2_with fail
   go_ret
   exact ⟨ret_int (by have := UB hF; simp at this; omega), b0⟩

theorem putHead_has {vq va vb vm vp vu : Value} {m : Mg} {w : World} (h : HasM w vq va vb vm vp vu m) (ho : m.op = 0 ∨ m.op = 5) (hc0 : 0 ≤ m.code) (hc1 : m.code ≤ 10) (h1 : m.qs.length = 1) :
  Calls Tryz.prog 50 #[.agg #[.int .i64 m.id, .bool m.reply, .int .i64 m.op, .bool m.auth, .int .i64 m.code, vq, va, vb, vm, vp, vu]] w fun e w' => ∃ v', e = .returned v' ∧ Own w.heap.size 5 w' v' (headM m) ∧ Below w.heap.size w w' := by
 obtain ⟨xq, yq, rfl, _, zq⟩ := h.qs.form
 obtain ⟨xa, ya, rfl, _, za⟩ := h.ans.form
 obtain ⟨xb, yb, rfl, _, zb⟩ := h.aus.form
 obtain ⟨xm, ym, rfl, _, zm⟩ := h.more.form
 obtain ⟨xp, yp, rfl, _, zp⟩ := h.pres.form
 obtain ⟨xu, yu, rfl, _, zu⟩ := h.ups.form
 have b0 := UI (w := w) (.cells #[.int .i64 m.id, .bool m.reply, .int .i64 m.op, .bool m.auth, .int .i64 m.code, .slice xq m.qs.length yq, .slice xa m.ans.length ya, .slice xb m.aus.length yb, .slice xm m.more.length ym, .slice xp m.pres.length yp, .slice xu m.ups.length yu] 27)
 have KK := UC (heap_alloc_new w (.cells #[.int .i64 m.id, .bool m.reply, .int .i64 m.op, .bool m.auth, .int .i64 m.code, .slice xq m.qs.length yq, .slice xa m.ans.length ya, .slice xb m.aus.length yb, .slice xm m.more.length ym, .slice xp m.pres.length yp, .slice xu m.ups.length yu] 27))
 have HF := UC (fun (w : World) (h : HasM w (.slice xq m.qs.length yq) (.slice xa m.ans.length ya) (.slice xb m.aus.length yb) (.slice xm m.more.length ym) (.slice xp m.pres.length yp) (.slice xu m.ups.length yu) m) => flagsOf_has h ho hc0 hc1)
 have H := UC (h.below b0)
 have e0 : headK m 0 = [] := rfl
 have e1 : headK m 1 = put16 (headK m 0) m.id := rfl
 have e2 : headK m 2 = put16 (headK m 1) (flagsM m) := rfl
 have e3 : headK m 3 = put16 (headK m 2) 1 := rfl
 have e4 : headK m 4 = put16 (headK m 3) (firstM m) := rfl
 have e5 : headK m 5 = put16 (headK m 4) (secondM m) := rfl
 have e6 : headK m 6 = put16 (headK m 5) m.more.length := rfl
 have HL := UC (headK_length m)
 have E0 := UC e0
 have E1 := UC e1
 have E2 := UC e2
 have E3 := UC e3
 have E4 := UC e4
 have E5 := UC e5
 have E6 := UC e6
 rw [← headK_all]
 have hfi := UC (show firstM m = if m.op = 5 then m.pres.length else m.ans.length from rfl)
 have hse := UC (show secondM m = if m.op = 5 then m.ups.length else m.aus.length from rfl)
 clear e0 e1 e2 e3 e4 e5 e6
 generalize headK m = HK at *
 generalize flagsM m = FL at *
 generalize firstM m = FI at *
 generalize secondM m = SE at *
 have hqI : ((m.qs.length : Nat) : Int) = 1 := by omega
 have HQ := UC hqI
 clear h h1 hqI
 unfold maxLen at *
 rcases ho with h0 | h5
 ·have o5 : (m.op == 5) = false := by rw [h0]; rfl
  have hfi' := UB hfi
  rw [if_neg (by omega)] at hfi'
  have hse' := UB hse
  rw [if_neg (by omega)] at hse'
  clear h0 hfi hse
  subst hfi' hse'
  go_enter Tryz.func50, Tryz.ntmps50
  obtain ⟨d0, d1, d2, d3, d4, d5, d6, d7, d8, d9, d10⟩ := cells11 (UB KK)
  go_wp2_with fail
  go_quiet (fail)
  go_wp2_with fail
  have bq := below_draws (w := w.alloc (.cells #[.int .i64 m.id, .bool m.reply, .int .i64 m.op, .bool m.auth, .int .i64 m.code, .slice xq m.qs.length yq, .slice xa m.ans.length ya, .slice xb m.aus.length yb, .slice xm m.more.length ym, .slice xp m.pres.length yp, .slice xu m.ups.length yu] 27)) nq
  replace KK := UC (UE bq (UB KK))
  replace H := UC ((UB H).below bq)
  replace b0 := UG b0 bq
  clear bq d0 d1 d2 d3 d4 d5 d6 d7 d8 d9 d10
  generalize (w.alloc (.cells #[.int .i64 m.id, .bool m.reply, .int .i64 m.op, .bool m.auth, .int .i64 m.code, .slice xq m.qs.length yq, .slice xa m.ans.length ya, .slice xb m.aus.length yb, .slice xm m.more.length ym, .slice xp m.pres.length yp, .slice xu m.ups.length yu] 27)).drewN nq = W at *
  have bd := UX (w := W)
  replace KK := UC (UE bd (UB KK))
  replace H := UC ((UB H).below bd)
  replace b0 := UG b0 bd
  clear bd
  go_region_held3 (fun w' => w'.cell? ⟨w.heap.size, 0, none⟩ = some (.int .i64 m.id) ∧ w'.cell? ⟨w.heap.size, 1, none⟩ = some (.bool m.reply) ∧ w'.cell? ⟨w.heap.size, 2, none⟩ = some (.int .i64 m.op) ∧ w'.cell? ⟨w.heap.size, 3, none⟩ = some (.bool m.auth) ∧ w'.cell? ⟨w.heap.size, 4, none⟩ = some (.int .i64 m.code) ∧ w'.cell? ⟨w.heap.size, 5, none⟩ = some (.slice xq m.qs.length yq) ∧ w'.cell? ⟨w.heap.size, 6, none⟩ = some (.slice xa m.ans.length ya) ∧ w'.cell? ⟨w.heap.size, 7, none⟩ = some (.slice xb m.aus.length yb) ∧ w'.cell? ⟨w.heap.size, 8, none⟩ = some (.slice xm m.more.length ym) ∧ w'.cell? ⟨w.heap.size, 9, none⟩ = some (.slice xp m.pres.length yp) ∧ w'.cell? ⟨w.heap.size, 10, none⟩ = some (.slice xu m.ups.length yu))
   (first | exact cells11 (UB KK) | exact cells11 (UE b2 (UB KK)))
   (first
   | (go_at_call 85; refine (UB HF _ (UB H)).mono ?_; rintro e w2 ⟨rfl, b2⟩))
  replace b0 := UG b0 b2
  have zb := b0.size
  have hq1 := UB HQ
  clear b2 KK H HF
  rw [hq1]
  clear hq1
  go_wp2_with fail
  go_loopw [5, 36] (fun o i wr => ∃ k : Nat, k ≤ 6 ∧ i = .int .i64 k ∧ Own w.heap.size 5 wr o (HK k) ∧ Below w.heap.size w wr) (fun _ i _ => 6 - (intOf i).toNat)
  case atStart => exact ⟨0, Nat.zero_le _, rfl, by rw [UB E0]; exact World.ownsRow_nil _ _ _ _, b0⟩
  case round =>
   obtain ⟨k, hk, rfl, ho, hb⟩ := hrel
   have hlk := UB HL k
   have zw := hb.size
   clear b0 zb
   rcases (show k = 0 ∨ k = 1 ∨ k = 2 ∨ k = 3 ∨ k = 4 ∨ k = 5 ∨ k = 6 by omega) with rfl | rfl | rfl | rfl | rfl | rfl | rfl
   ·have hix := fun (a b c d e f : Value) (w : World) => index6_0 a b c d e f w
    go_wp2_with fail
    clear hix
    refine (implPut16w_any _ ho (by omega)).mono ?_
    rintro e w5 ⟨v5, rfl, o5, b5⟩
    rw [← UB E1] at o5
    go_wp2_with fail
    exact ⟨⟨1, by omega, by go_num, o5.mono (by omega), hb.trans (b5.mono (by omega))⟩, by simp [intOf]⟩
   ·have hix := fun (a b c d e f : Value) (w : World) => index6_1 a b c d e f w
    go_wp2_with fail
    clear hix
    refine (implPut16w_any _ ho (by omega)).mono ?_
    rintro e w5 ⟨v5, rfl, o5, b5⟩
    rw [← UB E2] at o5
    go_wp2_with fail
    exact ⟨⟨2, by omega, by go_num, o5.mono (by omega), hb.trans (b5.mono (by omega))⟩, by simp [intOf]⟩
   ·have hix := fun (a b c d e f : Value) (w : World) => index6_2 a b c d e f w
    go_wp2_with fail
    clear hix
    refine (implPut16w_any _ ho (by omega)).mono ?_
    rintro e w5 ⟨v5, rfl, o5, b5⟩
    rw [← UB E3] at o5
    go_wp2_with fail
    exact ⟨⟨3, by omega, by go_num, o5.mono (by omega), hb.trans (b5.mono (by omega))⟩, by simp [intOf]⟩
   ·have hix := fun (a b c d e f : Value) (w : World) => index6_3 a b c d e f w
    go_wp2_with fail
    clear hix
    refine (implPut16w_any _ ho (by omega)).mono ?_
    rintro e w5 ⟨v5, rfl, o5, b5⟩
    rw [← UB E4] at o5
    go_wp2_with fail
    exact ⟨⟨4, by omega, by go_num, o5.mono (by omega), hb.trans (b5.mono (by omega))⟩, by simp [intOf]⟩
   ·have hix := fun (a b c d e f : Value) (w : World) => index6_4 a b c d e f w
    go_wp2_with fail
    clear hix
    refine (implPut16w_any _ ho (by omega)).mono ?_
    rintro e w5 ⟨v5, rfl, o5, b5⟩
    rw [← UB E5] at o5
    go_wp2_with fail
    exact ⟨⟨5, by omega, by go_num, o5.mono (by omega), hb.trans (b5.mono (by omega))⟩, by simp [intOf]⟩
   ·have hix := fun (a b c d e f : Value) (w : World) => index6_5 a b c d e f w
    go_wp2_with fail
    clear hix
    refine (implPut16w_any _ ho (by omega)).mono ?_
    rintro e w5 ⟨v5, rfl, o5, b5⟩
    rw [← UB E6] at o5
    go_wp2_with fail
    exact ⟨⟨6, by omega, by go_num, o5.mono (by omega), hb.trans (b5.mono (by omega))⟩, by simp [intOf]⟩
   ·go_wp2_with fail
    go_ret
    exact ⟨_, rfl, ho, hb⟩
 ·have o5 : (m.op == 5) = true := by rw [h5]; rfl
  have hfi' := UB hfi
  rw [if_pos h5] at hfi'
  have hse' := UB hse
  rw [if_pos h5] at hse'
  clear h5 hfi hse
  subst hfi' hse'
  go_enter Tryz.func50, Tryz.ntmps50
  obtain ⟨d0, d1, d2, d3, d4, d5, d6, d7, d8, d9, d10⟩ := cells11 (UB KK)
  go_wp2_with fail
  go_quiet (fail)
  go_wp2_with fail
  have bq := below_draws (w := w.alloc (.cells #[.int .i64 m.id, .bool m.reply, .int .i64 m.op, .bool m.auth, .int .i64 m.code, .slice xq m.qs.length yq, .slice xa m.ans.length ya, .slice xb m.aus.length yb, .slice xm m.more.length ym, .slice xp m.pres.length yp, .slice xu m.ups.length yu] 27)) nq
  replace KK := UC (UE bq (UB KK))
  replace H := UC ((UB H).below bq)
  replace b0 := UG b0 bq
  clear bq d0 d1 d2 d3 d4 d5 d6 d7 d8 d9 d10
  generalize (w.alloc (.cells #[.int .i64 m.id, .bool m.reply, .int .i64 m.op, .bool m.auth, .int .i64 m.code, .slice xq m.qs.length yq, .slice xa m.ans.length ya, .slice xb m.aus.length yb, .slice xm m.more.length ym, .slice xp m.pres.length yp, .slice xu m.ups.length yu] 27)).drewN nq = W at *
  obtain ⟨d0, d1, d2, d3, d4, d5, d6, d7, d8, d9, d10⟩ := cells11 (UB KK)
  go_quiet (fail)
  go_wp2_with fail
  have bq := below_draws (w := W) nq
  replace KK := UC (UE bq (UB KK))
  replace H := UC ((UB H).below bq)
  replace b0 := UG b0 bq
  clear bq d0 d1 d2 d3 d4 d5 d6 d7 d8 d9 d10
  generalize W.drewN nq = W at *
  have bd := UX (w := W)
  replace KK := UC (UE bd (UB KK))
  replace H := UC ((UB H).below bd)
  replace b0 := UG b0 bd
  clear bd
  go_region_held3 (fun w' => w'.cell? ⟨w.heap.size, 0, none⟩ = some (.int .i64 m.id) ∧ w'.cell? ⟨w.heap.size, 1, none⟩ = some (.bool m.reply) ∧ w'.cell? ⟨w.heap.size, 2, none⟩ = some (.int .i64 m.op) ∧ w'.cell? ⟨w.heap.size, 3, none⟩ = some (.bool m.auth) ∧ w'.cell? ⟨w.heap.size, 4, none⟩ = some (.int .i64 m.code) ∧ w'.cell? ⟨w.heap.size, 5, none⟩ = some (.slice xq m.qs.length yq) ∧ w'.cell? ⟨w.heap.size, 6, none⟩ = some (.slice xa m.ans.length ya) ∧ w'.cell? ⟨w.heap.size, 7, none⟩ = some (.slice xb m.aus.length yb) ∧ w'.cell? ⟨w.heap.size, 8, none⟩ = some (.slice xm m.more.length ym) ∧ w'.cell? ⟨w.heap.size, 9, none⟩ = some (.slice xp m.pres.length yp) ∧ w'.cell? ⟨w.heap.size, 10, none⟩ = some (.slice xu m.ups.length yu))
   (first | exact cells11 (UB KK) | exact cells11 (UE b2 (UB KK)))
   (first
   | (go_at_call 85; refine (UB HF _ (UB H)).mono ?_; rintro e w2 ⟨rfl, b2⟩))
  replace b0 := UG b0 b2
  have zb := b0.size
  have hq1 := UB HQ
  clear b2 KK H HF
  rw [hq1]
  clear hq1
  go_wp2_with fail
  go_loopw [5, 36] (fun o i wr => ∃ k : Nat, k ≤ 6 ∧ i = .int .i64 k ∧ Own w.heap.size 5 wr o (HK k) ∧ Below w.heap.size w wr) (fun _ i _ => 6 - (intOf i).toNat)
  case atStart => exact ⟨0, Nat.zero_le _, rfl, by rw [UB E0]; exact World.ownsRow_nil _ _ _ _, b0⟩
  case round =>
   obtain ⟨k, hk, rfl, ho, hb⟩ := hrel
   have hlk := UB HL k
   have zw := hb.size
   clear b0 zb
   rcases (show k = 0 ∨ k = 1 ∨ k = 2 ∨ k = 3 ∨ k = 4 ∨ k = 5 ∨ k = 6 by omega) with rfl | rfl | rfl | rfl | rfl | rfl | rfl
   ·have hix := fun (a b c d e f : Value) (w : World) => index6_0 a b c d e f w
    go_wp2_with fail
    clear hix
    refine (implPut16w_any _ ho (by omega)).mono ?_
    rintro e w5 ⟨v5, rfl, o5, b5⟩
    rw [← UB E1] at o5
    go_wp2_with fail
    exact ⟨⟨1, by omega, by go_num, o5.mono (by omega), hb.trans (b5.mono (by omega))⟩, by simp [intOf]⟩
   ·have hix := fun (a b c d e f : Value) (w : World) => index6_1 a b c d e f w
    go_wp2_with fail
    clear hix
    refine (implPut16w_any _ ho (by omega)).mono ?_
    rintro e w5 ⟨v5, rfl, o5, b5⟩
    rw [← UB E2] at o5
    go_wp2_with fail
    exact ⟨⟨2, by omega, by go_num, o5.mono (by omega), hb.trans (b5.mono (by omega))⟩, by simp [intOf]⟩
   ·have hix := fun (a b c d e f : Value) (w : World) => index6_2 a b c d e f w
    go_wp2_with fail
    clear hix
    refine (implPut16w_any _ ho (by omega)).mono ?_
    rintro e w5 ⟨v5, rfl, o5, b5⟩
    rw [← UB E3] at o5
    go_wp2_with fail
    exact ⟨⟨3, by omega, by go_num, o5.mono (by omega), hb.trans (b5.mono (by omega))⟩, by simp [intOf]⟩
   ·have hix := fun (a b c d e f : Value) (w : World) => index6_3 a b c d e f w
    go_wp2_with fail
    clear hix
    refine (implPut16w_any _ ho (by omega)).mono ?_
    rintro e w5 ⟨v5, rfl, o5, b5⟩
    rw [← UB E4] at o5
    go_wp2_with fail
    exact ⟨⟨4, by omega, by go_num, o5.mono (by omega), hb.trans (b5.mono (by omega))⟩, by simp [intOf]⟩
   ·have hix := fun (a b c d e f : Value) (w : World) => index6_4 a b c d e f w
    go_wp2_with fail
    clear hix
    refine (implPut16w_any _ ho (by omega)).mono ?_
    rintro e w5 ⟨v5, rfl, o5, b5⟩
    rw [← UB E5] at o5
    go_wp2_with fail
    exact ⟨⟨5, by omega, by go_num, o5.mono (by omega), hb.trans (b5.mono (by omega))⟩, by simp [intOf]⟩
   ·have hix := fun (a b c d e f : Value) (w : World) => index6_5 a b c d e f w
    go_wp2_with fail
    clear hix
    refine (implPut16w_any _ ho (by omega)).mono ?_
    rintro e w5 ⟨v5, rfl, o5, b5⟩
    rw [← UB E6] at o5
    go_wp2_with fail
    exact ⟨⟨6, by omega, by go_num, o5.mono (by omega), hb.trans (b5.mono (by omega))⟩, by simp [intOf]⟩
   ·go_wp2_with fail
    go_ret
    exact ⟨_, rfl, ho, hb⟩
def RowSG {α : Type} (c : Nat) (E : World → List Value → α → Prop) (d : α) (B : Nat) (e : TypeId) (W w : World) (v : Value) (xs : List α) : Prop :=
 ∃ cs, w.ownsRow B e c v xs.length cs ∧ ∀ i, i < xs.length → ∃ vs, vs.length = c ∧ (∀ j u, vs[j]? = some u → cs[i * c + j]? = some u) ∧ E W vs (xs.getD i d)
section
variable {α : Type} {c : Nat} {E : World → List Value → α → Prop} {d : α} {B : Nat} {e : TypeId} {W w w' : World} {v v' : Value} {xs : List α}
theorem RowSG.nil (W w : World) : RowSG c E d B e W w (.slice none 0 0) [] := ⟨[], World.ownsRow_nil _ _ _ _, fun i hi => absurd hi (by simp)⟩
theorem RowSG.snoc {cs : List Value} {x : α} {us : List Value} (hl : cs.length = xs.length * c)
  (hx : ∀ i, i < xs.length → ∃ vs, vs.length = c ∧ (∀ j u, vs[j]? = some u → cs[i * c + j]? = some u) ∧ E W vs (xs.getD i d))
  (ho : w'.ownsRow B e c v' (xs.length + 1) (cs ++ us)) (hu : us.length = c) (hr : E W us x) : RowSG c E d B e W w' v' (xs ++ [x]) := by
 refine ⟨cs ++ us, by rw [List.length_append]; exact ho, fun i hi => ?_⟩
 rw [List.length_append] at hi
 simp only [List.length_cons, List.length_nil] at hi
 by_cases h : i < xs.length
 ·obtain ⟨vs, q0, q1, q2⟩ := hx i h
  have e1 : (xs ++ [x]).getD i d = xs.getD i d := by rw [List.getD_eq_getElem?_getD, List.getElem?_append_left h, ← List.getD_eq_getElem?_getD]
  rw [e1]
  refine ⟨vs, q0, fun j u hj => ?_, q2⟩
  have hjc : j < c := by rw [← q0]; exact (List.getElem?_eq_some_iff.1 hj).1
  rw [List.getElem?_append_left (by rw [hl]; exact idx_lt h hjc)]
  exact q1 j u hj
 ·obtain rfl : i = xs.length := by omega
  have e1 : (xs ++ [x]).getD xs.length d = x := by rw [List.getD_eq_getElem?_getD]; simp
  rw [e1]
  refine ⟨us, hu, fun j u hj => ?_, hr⟩
  rw [List.getElem?_append_right (by omega), hl, Nat.add_sub_cancel_left]
  exact hj
theorem RowSG.has (hE : Stays E) (h : RowSG c E d B e W w v xs) (hb : Below W.heap.size W w) : HasG c E d w v xs := by
 obtain ⟨cs, ho, hx⟩ := h
 have ho' := ho
 rcases ho.2 with ⟨rfl, hn⟩ | ⟨g, cap, cur, rfl, hB, hg, hn, hm, hs, ht⟩
 ·exact .inl ⟨rfl, List.eq_nil_of_length_eq_zero hn⟩
 ·refine .inr ⟨g, 0, cap, rfl, VC hg, hn, hm, fun i hi => ?_⟩
  obtain ⟨vs, q0, q1, q2⟩ := hx i hi
  refine ⟨vs, fun j u hj => ?_, hE q2 hb⟩
  have hjc : j < c := by rw [← q0]; exact (List.getElem?_eq_some_iff.1 hj).1
  rw [Nat.zero_add, World.ownsRow.cellAt ho' (i * c + j) (idx_lt hi hjc)]
  exact q1 j u hj
end
theorem append_one {P : Program} {w : World} {ops : Array Oper} {rest : List Oper} {o : Oper} {a : Act} {Q : Exit → Act → World → Prop} (hgd : o.guard = none) (s x : Operand) (t e : TypeId)
  (ho : o.op = .call { callee := .builtin .append, args := #[s, x], argTypes := #[t, t] }) (ht : P.underlying t = some (.slice e)) (zs : Array Value) (c bytes : Nat) (hb : bytes ≤ 1000) (hc0 : 0 < c)
  (hinfo : (P.info? e).map (fun i => (i.zero, i.size, i.bytes)) = some (some (.agg zs), c, bytes)) (hzs : zs.size = c)
  (base : Nat) (v : Value) (n : Nat) (xs : List Value) (hs : a.eval s = v) (hown : w.ownsRow base e c v n xs) (g : Nat) (cs : List Value) (hx : a.eval x = .slice (some ⟨g, 0, none⟩) 1 1)
  (hg : w.heap[g]? = some (.cells cs.toArray e)) (hcl : cs.length = c) (h1 : ∀ u ∈ cs, u.oneCell' = true) (hlen : n ≤ 1000) (hbase : base ≤ w.heap.size)
  (h : ∀ v' w', w'.ownsRow base e c v' (n + 1) (xs ++ cs) → w.grownBy w' v.ownBlock → wpList P ops Q rest (a.put o.dst v') w') : wpList P ops Q (o :: rest) a w := by
 obtain ⟨i0, hi, hzz⟩ := Option.map_eq_some_iff.1 hinfo
 simp only [Prod.mk.injEq] at hzz
 obtain ⟨hz0, hz1, hz2⟩ := hzz
 refine wpList_append_own w hgd s x t ho base e i0 (.agg zs) c bytes ht hi hz0 hz1 hz2 hzs hc0 v n xs hs hown ⟨g, 0, none⟩ 1 1 cs hx (by rw [hcl, Nat.one_mul]) (fun j u hj => ?_) h1 (by unfold maxLen; omega) ?_ hbase ?_
 ·rw [Addr.add_lit, Nat.zero_add, VE hg]
  simpa using hj
 ·exact Nat.le_trans (Nat.mul_le_mul (show n + 1 ≤ 1001 by omega) hb) (by decide)
 ·intro v' w' q1 q2 _
  exact h v' w' q1 q2

theorem flat_length {c : Nat} (f : Nat → List Value) (hf : ∀ i, (f i).length = c) : ∀ n, (((List.range n).map f).flatten).length = n * c
 | 0 => by simp
 | n + 1 => by
  rw [List.range_succ, List.map_append, List.flatten_append, List.length_append, flat_length f hf n]
  simp [hf n, Nat.add_mul]
theorem flat_get {c : Nat} (f : Nat → List Value) (hf : ∀ i, (f i).length = c) : ∀ n i j, i < n → j < c → (((List.range n).map f).flatten)[i * c + j]? = (f i)[j]?
 | 0, i, j, hi, _ => absurd hi (Nat.not_lt_zero _)
 | n + 1, i, j, hi, hj => by
  rw [List.range_succ, List.map_append, List.flatten_append]
  by_cases h : i < n
  ·rw [List.getElem?_append_left (by rw [flat_length f hf n]; exact idx_lt h hj)]
   exact flat_get f hf n i j h hj
  ·obtain rfl : i = n := by omega
   rw [List.getElem?_append_right (by rw [flat_length f hf i]; omega), flat_length f hf i, Nat.add_sub_cancel_left]
   simp
section
variable {α : Type} {c : Nat} {E : World → List Value → α → Prop} {d : α} {B : Nat} {e : TypeId} {W w w' : World} {v v' : Value} {xs ys : List α}
theorem HasG.cells (hc : ∀ {w : World} {vs : List Value} {x : α}, E w vs x → vs.length = c) {a : Option Addr} {n cap : Nat} (h : HasG c E d w (.slice a n cap) ys) (h0 : 0 < c) : (a = none ∧ n = 0 ∧ cap = 0 ∧ ys = []) ∨ ∃ (ad : Addr) (news : List Value), a = some ad ∧ n = ys.length ∧ news.length = ys.length * c ∧ (∀ j u, news[j]? = some u → w.cell? (ad.add j) = some u) ∧
  (∀ u ∈ news, ∃ vs x, E w vs x ∧ u ∈ vs) ∧ ∀ i, i < ys.length → ∃ vs, vs.length = c ∧ (∀ j u, vs[j]? = some u → news[i * c + j]? = some u) ∧ E w vs (ys.getD i d) := by
 rcases h with ⟨hv, hy⟩ | ⟨g, off, cp, hv, hlt, hl, hm, hx⟩
 ·simp only [Value.slice.injEq] at hv
  exact .inl ⟨hv.1, hv.2.1, hv.2.2, hy⟩
 ·right
  simp only [Value.slice.injEq] at hv
  obtain ⟨rfl, rfl, rfl⟩ := hv
  let f : Nat → List Value := fun i => if hi : i < ys.length then (hx i hi).choose else List.replicate c undef
  have hf1 : ∀ i (hi : i < ys.length), w.rangeAt g (off + i * c) (f i) ∧ E w (f i) (ys.getD i d) := fun i hi => by
   have := (hx i hi).choose_spec
   simp only [f, hi, dite_true]
   exact this
  have hf : ∀ i, (f i).length = c := fun i => by
   by_cases hi : i < ys.length
   ·exact hc (hf1 i hi).2
   ·simp [f, hi]
  have hsplit : ∀ j, j < ys.length * c → j / c < ys.length ∧ j % c < c ∧ j / c * c + j % c = j := fun j hj => by
   refine ⟨(Nat.div_lt_iff_lt_mul h0).2 hj, Nat.mod_lt _ h0, ?_⟩
   rw [Nat.mul_comm]
   exact Nat.div_add_mod j c
  refine ⟨⟨g, off, none⟩, ((List.range ys.length).map f).flatten, rfl, rfl, flat_length f hf _, fun j u hj => ?_, fun u hu => ?_, fun i hi => ⟨f i, hf i, fun j u hj => ?_, (hf1 i hi).2⟩⟩
  ·have hjl := (List.getElem?_eq_some_iff.1 hj).1
   rw [flat_length f hf] at hjl
   obtain ⟨h1, h2, h3⟩ := hsplit j hjl
   rw [← h3, flat_get f hf _ _ _ h1 h2] at hj
   have := (hf1 _ h1).1 _ u hj
   rw [Addr.add_mid, ← h3, ← Nat.add_assoc]
   exact this
  ·obtain ⟨l, hl1, hl2⟩ := List.mem_flatten.1 hu
   obtain ⟨i, hi1, hi2⟩ := List.mem_map.1 hl1
   have hi := List.mem_range.1 hi1
   subst hi2
   exact ⟨_, _, (hf1 i hi).2, hl2⟩
  ·have hjc : j < c := by rw [← hf i]; exact (List.getElem?_eq_some_iff.1 hj).1
   rw [flat_get f hf _ _ _ hi hjc]
   exact hj
theorem RowSG.join {cs news : List Value} (hl : cs.length = xs.length * c)
  (hx : ∀ i, i < xs.length → ∃ vs, vs.length = c ∧ (∀ j u, vs[j]? = some u → cs[i * c + j]? = some u) ∧ E W vs (xs.getD i d))
  (hy : ∀ i, i < ys.length → ∃ vs, vs.length = c ∧ (∀ j u, vs[j]? = some u → news[i * c + j]? = some u) ∧ E W vs (ys.getD i d))
  (ho : w'.ownsRow B e c v' (xs.length + ys.length) (cs ++ news)) : RowSG c E d B e W w' v' (xs ++ ys) := by
 refine ⟨cs ++ news, by rw [List.length_append]; exact ho, fun i hi => ?_⟩
 rw [List.length_append] at hi
 by_cases h : i < xs.length
 ·obtain ⟨vs, q0, q1, q2⟩ := hx i h
  have e1 : (xs ++ ys).getD i d = xs.getD i d := by rw [List.getD_eq_getElem?_getD, List.getElem?_append_left h, ← List.getD_eq_getElem?_getD]
  rw [e1]
  refine ⟨vs, q0, fun j u hj => ?_, q2⟩
  have hjc : j < c := by rw [← q0]; exact (List.getElem?_eq_some_iff.1 hj).1
  rw [List.getElem?_append_left (by rw [hl]; exact idx_lt h hjc)]
  exact q1 j u hj
 ·obtain ⟨vs, q0, q1, q2⟩ := hy (i - xs.length) (by omega)
  have e1 : (xs ++ ys).getD i d = ys.getD (i - xs.length) d := by rw [List.getD_eq_getElem?_getD, List.getElem?_append_right (by omega), ← List.getD_eq_getElem?_getD]
  rw [e1]
  refine ⟨vs, q0, fun j u hj => ?_, q2⟩
  have hs : xs.length * c ≤ i * c := Nat.mul_le_mul_right c (by omega)
  rw [List.getElem?_append_right (by rw [hl]; omega), hl, show i * c + j - xs.length * c = (i - xs.length) * c + j by rw [Nat.sub_mul]; omega]
  exact q1 j u hj
end
theorem append_many_wp {α : Type} {c : Nat} {E : World → List Value → α → Prop} {d : α} {P : Program} {W w : World} {o : Oper} {a : Act} {K : Act → World → Prop} {Q : Exit → Act → World → Prop} (hE : Stays E) (hc : ∀ {w : World} {vs : List Value} {x : α}, E w vs x → vs.length = c) (h1 : ∀ {w : World} {vs : List Value} {x : α}, E w vs x → ∀ u ∈ vs, u.oneCell' = true) (h0 : 0 < c)
  (s x : Operand) (t e : TypeId) (ho : o.op = .call { callee := .builtin .append, args := #[s, x], argTypes := #[t, t] }) (ht : P.underlying t = some (.slice e)) (zs : Array Value) (bytes : Nat) (hb : bytes ≤ 1000)
  (hinfo : (P.info? e).map (fun i => (i.zero, i.size, i.bytes)) = some (some (.agg zs), c, bytes)) (hzs : zs.size = c)
  (base : Nat) (v vx : Value) (xs ys : List α) (hs : a.eval s = v) (hx : a.eval x = vx) (hown : RowSG c E d base e W w v xs) (hr : HasG c E d W vx ys) (hbW : Below W.heap.size W w) (hlen : xs.length + ys.length ≤ 1000) (hbase : base ≤ w.heap.size)
  (h : ∀ v' w', RowSG c E d base e W w' v' (xs ++ ys) → w.grownBy w' v.ownBlock → K (a.put o.dst v') w') : Oper.wp P o a w K Q := by
 obtain ⟨i0, hi, hzz⟩ := Option.map_eq_some_iff.1 hinfo
 simp only [Prod.mk.injEq] at hzz
 obtain ⟨hz0, hz1, hz2⟩ := hzz
 obtain ⟨cs, how, hxs⟩ := hown
 obtain ⟨ax, cap, rfl, hcp, hcm⟩ := hr.form
 rcases HasG.cells hc hr h0 with ⟨rfl, hn, rfl, rfl⟩ | ⟨ad, news, rfl, _, hnl, hnc, hn1, hny⟩
 ·have hr' := run_append_owned_none (P := P) w base t o.type e i0 c ht hi v xs.length cs how
  unfold Oper.wp execOp
  simp only [ho, resolve, invoke, builtin, Sem.run_bind, Sem.run_pure, Result.andThen_ok, List.map_toArray, List.map_cons, List.map_nil, hs, hx, List.length_nil, hr']
  exact h v w (by rw [List.append_nil]; exact ⟨cs, how, hxs⟩) ⟨rfl, rfl, rfl, Nat.le_refl _, fun _ _ _ => rfl⟩
 ·obtain ⟨v', w', hr', h2, h3, _⟩ := run_append_own (P := P) w base t o.type e i0 (.agg zs) c bytes ht hi hz0 hz1 hz2 hzs h0 v xs.length cs how ad ys.length cap news hnl (fun j u hj => (hbW.cell (cell_lt (hnc j u hj) |> fun q => (by simpa [Addr.add] using q : (ad.add j).block < W.heap.size))).trans (hnc j u hj)) (fun u hu => by obtain ⟨vs, x, q1, q2⟩ := hn1 u hu; exact h1 q1 u q2) (by unfold maxLen; omega) (Nat.le_trans (Nat.mul_le_mul (show xs.length + ys.length ≤ 1000 by omega) hb) (by decide)) hbase
  unfold Oper.wp execOp
  simp only [ho, resolve, invoke, builtin, Sem.run_bind, Sem.run_pure, Result.andThen_ok, List.map_toArray, List.map_cons, List.map_nil, hs, hx, hr']
  exact h v' w' (RowSG.join how.1 hxs hny h2) h3
end Go.Proofs.YtbabmdiklefgcaaGreatDoor
