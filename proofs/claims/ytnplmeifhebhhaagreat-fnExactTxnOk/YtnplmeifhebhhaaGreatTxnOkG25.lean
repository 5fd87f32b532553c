/-
  A region that draws its order, one way through it: what only looks is taken in the order of its number, whether its guard wants it or not. Contracts of the program's flagsOf, putHead, putQuestion, inClass, putWant, putSections.
-/
import Derived.Test.YtnplmeifhebhhaaGreatTxnOkG05
import Derived.Deep.RegionHeld3
import Derived.Test.YtnplmeifhebhhaaGreatTxnOkG22
import Derived.Test.YtnplmeifhebhhaaGreatTxnOkG24
namespace Go.Proofs.YtnplmeifhebhhaaGreat
open Go.RowKit
set_option linter.unusedVariables false

def nextF : List Bool → Nat
 | true :: l => nextF l + 1
 | _ => 0
def setF : List Bool → List Bool
 | true :: l => true :: setF l
 | false :: l => true :: l
 | [] => []
def dropF {α : Type} : List Bool → List α → List α
 | true :: l, _ :: m => dropF l m
 | _, m => m
theorem setF_eq : ∀ l : List Bool, l.set (nextF l) true = setF l
 | [] => rfl
 | false :: _ => rfl
 | true :: l => by simp [nextF, setF, setF_eq l]
theorem dropF_get {α : Type} {o : α} {r : List α} : ∀ (l : List Bool) (m : List α), dropF l m = o :: r → m[nextF l]? = some o
 | [], m, h => by simp only [dropF] at h; subst h; rfl
 | false :: _, m, h => by simp only [dropF] at h; subst h; rfl
 | true :: l, [], h => by simp only [dropF] at h; cases h
 | true :: l, _ :: m, h => by simp only [dropF] at h; simpa [nextF] using dropF_get l m h
def callsF : Op → Bool
 | .call _ => true
 | _ => false

section
variable {P : Program} {ops : Array Oper} {Q : Exit → Act → World → Prop} {md : Region.Mode} {S : World → Prop}
theorem ops_next {l : List Bool} {oi : Oper} {rest : List Oper} (hi : dropF l ops.toList = oi :: rest) : ops[nextF l]? = some oi := by
 have := dropF_get l ops.toList hi
 rwa [Array.getElem?_toList] at this
theorem ops_drop {i : Nat} {oi : Oper} {rest : List Oper} (hi : ops.toList.drop i = oi :: rest) : ops[i]? = some oi := by
 rw [← Array.getElem?_toList, ← List.head?_drop, hi]
 rfl
theorem listed_next (l : List Bool) : l.toArray.setIfInBounds (nextF l) true = (setF l).toArray := by
 rw [List.setIfInBounds_toArray, setF_eq]
/-- The next one is wanted and only looks. -/
theorem tkF (v : Value) {oi : Oper} {rest : List Oper} {fuel : Nat} {l : List Bool} {a : Act} {w : World} (hi : dropF l ops.toList = oi :: rest)
  (hk : (!callsF oi.op && Region.noSelect ops && Region.free md ops l.toArray (nextF l) && (Region.ready md ops l.toArray).contains (nextF l)) = true)
  (hb : Region.wanted oi (yielded ops a.tmps) = true) (hQ : ∀ c a w, Q (.panic c) (a.put oi.dst v) w → Q (.panic c) a w)
  (hy : ∀ w, S w → (execOp a.eval oi).run P w = .ok (.value v) w) (hS : S w)
  (h : wpAnyH P md ops Q S fuel (setF l).toArray (a.put oi.dst v) w) : wpAnyH P md ops Q S (fuel + 1) l.toArray a w := by
 simp only [Bool.and_eq_true] at hk
 refine wpAnyH_take (ops_next hi) hk.1.1.2 hk.1.2 hk.2 hQ (Or.inl ⟨hb, hy⟩) hS ?_
 rw [listed_next]
 exact h
/-- The next one is not wanted. -/
theorem skF {oi : Oper} {rest : List Oper} {fuel : Nat} {l : List Bool} {a : Act} {w : World} (hi : dropF l ops.toList = oi :: rest)
  (hk : (Region.noSelect ops && Region.free md ops l.toArray (nextF l) && (Region.ready md ops l.toArray).contains (nextF l)) = true)
  (hb : Region.wanted oi (yielded ops a.tmps) = false) (hQ : ∀ c a w, Q (.panic c) (a.put oi.dst undef) w → Q (.panic c) a w) (hS : S w)
  (h : wpAnyH P md ops Q S fuel (setF l).toArray (a.put oi.dst undef) w) : wpAnyH P md ops Q S (fuel + 1) l.toArray a w := by
 simp only [Bool.and_eq_true] at hk
 refine wpAnyH_take (ops_next hi) hk.1.1 hk.1.2 hk.2 hQ (Or.inr ⟨hb, rfl⟩) hS ?_
 rw [listed_next]
 exact h
/-- Number i is wanted and only looks. -/
theorem tkI (i : Nat) (v : Value) {oi : Oper} {rest : List Oper} {fuel : Nat} {listed : Array Bool} {a : Act} {w : World} (hi : ops.toList.drop i = oi :: rest)
  (hk : (Region.noSelect ops && Region.free md ops listed i && (Region.ready md ops listed).contains i) = true)
  (hb : Region.wanted oi (yielded ops a.tmps) = true) (hQ : ∀ c a w, Q (.panic c) (a.put oi.dst v) w → Q (.panic c) a w)
  (hy : ∀ w, S w → (execOp a.eval oi).run P w = .ok (.value v) w) (hS : S w)
  (h : wpAnyH P md ops Q S fuel (listed.setIfInBounds i true) (a.put oi.dst v) w) : wpAnyH P md ops Q S (fuel + 1) listed a w := by
 simp only [Bool.and_eq_true] at hk
 exact wpAnyH_take (ops_drop hi) hk.1.1 hk.1.2 hk.2 hQ (Or.inl ⟨hb, hy⟩) hS h
/-- Number i alone may come up: it is run, and S shown anew. -/
theorem runI (i : Nat) {oi : Oper} {rest : List Oper} {fuel : Nat} {listed : Array Bool} {a : Act} {w : World} (hi : ops.toList.drop i = oi :: rest)
  (hk : (Region.ready md ops listed == [i]) = true) (hb : Region.wanted oi (yielded ops a.tmps) = true)
  (h : ∀ K' : Act → World → Prop, Shut (∀ a w, S w → (S w → wpAnyH P md ops Q S fuel (listed.setIfInBounds i true) a w) → K' a w) → Oper.wp P oi a w K' Q) :
  wpAnyH P md ops Q S (fuel + 1) listed a w := by
 rw [beq_iff_eq] at hk
 refine wpAnyH_ready hk (by simp) (AllReadyH.cons (ops_drop hi) (fun K hK => ?_) AllReadyH.nil)
 rw [if_pos hb]
 exact h K hK
/-- The beginning. -/
theorem startF (n : Nat) {id : Nat} {a : Act} {w : World} (hm : P.follows .mixedOrders = true) (hn : ops.size = n) (hS : S w.drew)
  (h : S w.drew → wpAnyH P .any ops Q S n (List.replicate n false).toArray a w.drew) : (Code.region id ops true).wp P Q a w := by
 refine wp_region_held_drew hm hS (fun hH => ?_)
 have := h hH
 rw [← hn] at this
 rwa [← List.toArray_replicate]
end
end Go.Proofs.YtnplmeifhebhhaaGreat

namespace Go.Proofs.YtnplmeifhebhhaaGreat
open Go.RowKit
set_option linter.unusedVariables false

theorem wrap_int' (x : Int) (h0 : 0 ≤ x) (h1 : x < 9223372036854775808) : IntKind.i64.wrap x = x := by
 have := wrap_small x.toNat (by omega)
 rwa [Int.toNat_of_nonneg h0] at this
theorem index6_0 (a b c d e f : Value) (w : World) : (Instr.index 122 (.agg #[a, b, c, d, e, f]) (.int .i64 0)).run Tryz.prog w = .ok a w := by kernel_rfl
theorem index6_1 (a b c d e f : Value) (w : World) : (Instr.index 122 (.agg #[a, b, c, d, e, f]) (.int .i64 1)).run Tryz.prog w = .ok b w := by kernel_rfl
theorem index6_2 (a b c d e f : Value) (w : World) : (Instr.index 122 (.agg #[a, b, c, d, e, f]) (.int .i64 2)).run Tryz.prog w = .ok c w := by kernel_rfl
theorem index6_3 (a b c d e f : Value) (w : World) : (Instr.index 122 (.agg #[a, b, c, d, e, f]) (.int .i64 3)).run Tryz.prog w = .ok d w := by kernel_rfl
theorem index6_4 (a b c d e f : Value) (w : World) : (Instr.index 122 (.agg #[a, b, c, d, e, f]) (.int .i64 4)).run Tryz.prog w = .ok e w := by kernel_rfl
theorem index6_5 (a b c d e f : Value) (w : World) : (Instr.index 122 (.agg #[a, b, c, d, e, f]) (.int .i64 5)).run Tryz.prog w = .ok f w := by kernel_rfl

def numsM (m : Mg) : List Int := [m.id, flagsM m, 1, firstM m, secondM m, m.more.length]
def headK (m : Mg) (k : Nat) : List Int := ((numsM m).take k).foldl put16 []
theorem headK_all (m : Mg) : headK m 6 = headM m := rfl
theorem headK_length (m : Mg) : ∀ k, (headK m k).length ≤ 2 * k
 | 0 => by simp [headK]
 | k + 1 => by
  by_cases hk : k < (numsM m).length
  ·have e : headK m (k + 1) = put16 (headK m k) ((numsM m)[k]) := by
    unfold headK
    rw [List.take_succ_eq_append_getElem hk, List.foldl_append]
    rfl
   rw [e]
   have h1 := put16_length (headK m k) ((numsM m)[k])
   have h2 := headK_length m k
   omega
  ·have e : headK m (k + 1) = headK m k := by unfold headK; rw [List.take_of_length_le (by omega), List.take_of_length_le (by omega)]
   rw [e]
   have := headK_length m k
   omega

set_option maxHeartbeats 1000000 in
set_option maxRecDepth 100000 in
theorem flagsOf_has {vq va vb vm vp vu : Value} {m : Mg} {w : World} (h : HasM w vq va vb vm vp vu m) (ho : m.op = 0 ∨ m.op = 5) (hc0 : 0 ≤ m.code) (hc1 : m.code ≤ 10) :
  Calls Tryz.prog 88 #[.agg #[.int .i64 m.id, .bool m.reply, .int .i64 m.op, .bool m.auth, .int .i64 m.code, vq, va, vb, vm, vp, vu]] w fun e w' => e = .returned (.int .i64 (flagsM m)) ∧ Below w.heap.size w w' := by
 obtain ⟨xq, yq, rfl, _, zq⟩ := h.qs.form
 obtain ⟨xa, ya, rfl, _, za⟩ := h.ans.form
 obtain ⟨xb, yb, rfl, _, zb⟩ := h.aus.form
 obtain ⟨xm, ym, rfl, _, zm⟩ := h.more.form
 obtain ⟨xp, yp, rfl, _, zp⟩ := h.pres.form
 obtain ⟨xu, yu, rfl, _, zu⟩ := h.ups.form
 have b0 := below_alloc (w := w) (.cells #[.int .i64 m.id, .bool m.reply, .int .i64 m.op, .bool m.auth, .int .i64 m.code, .slice xq m.qs.length yq, .slice xa m.ans.length ya, .slice xb m.aus.length yb, .slice xm m.more.length ym, .slice xp m.pres.length yp, .slice xu m.ups.length yu] 33)
 have KK := hide (heap_alloc_new w (.cells #[.int .i64 m.id, .bool m.reply, .int .i64 m.op, .bool m.auth, .int .i64 m.code, .slice xq m.qs.length yq, .slice xa m.ans.length ya, .slice xb m.aus.length yb, .slice xm m.more.length ym, .slice xp m.pres.length yp, .slice xu m.ups.length yu] 33))
 obtain ⟨d0, d1, d2, d3, d4, d5, d6, d7, d8, d9, d10⟩ := cells11 (unhide KK)
 have hF := hide (show flagsM m = 2048 * m.op + m.code + (if m.reply = true then 32768 else 0) + (if m.auth = true then 1024 else 0) from rfl)
 have h1 : IntKind.i64.wrap (2048 * m.op) = 2048 * m.op := wrap_int' _ (by omega) (by omega)
 have h2 : IntKind.i64.wrap (2048 * m.op + m.code) = 2048 * m.op + m.code := wrap_int' _ (by omega) (by omega)
 have h3 : IntKind.i64.wrap (2048 * m.op + m.code + 32768) = 2048 * m.op + m.code + 32768 := wrap_int' _ (by omega) (by omega)
 have h4 : IntKind.i64.wrap (2048 * m.op + m.code + 32768 + 1024) = 2048 * m.op + m.code + 32768 + 1024 := wrap_int' _ (by omega) (by omega)
 have h5 : IntKind.i64.wrap (2048 * m.op + m.code + 1024) = 2048 * m.op + m.code + 1024 := wrap_int' _ (by omega) (by omega)
 generalize flagsM m = F at *
 generalize m.reply = R at *
 generalize m.auth = A at *
 generalize m.op = O at *
 clear h ho
 cases R with
 | true =>
  cases A with
  | true =>
   go_enter Tryz.func88, Tryz.ntmps88
   go_wp2_with fail
   go_ret
   exact ⟨ret_int (by have := unhide hF; simp at this; omega), b0⟩
  | false =>
   go_enter Tryz.func88, Tryz.ntmps88
   go_wp2_with fail
   go_ret
   exact ⟨ret_int (by have := unhide hF; simp at this; omega), b0⟩
 | false =>
  cases A with
  | true =>
   go_enter Tryz.func88, Tryz.ntmps88
   go_wp2_with fail
   go_ret
   exact ⟨ret_int (by have := unhide hF; simp at this; omega), b0⟩
  | false =>
   go_enter Tryz.func88, Tryz.ntmps88
   go_wp2_with fail
   go_ret
   exact ⟨ret_int (by have := unhide hF; simp at this; omega), b0⟩

set_option maxHeartbeats 1000000 in
set_option maxRecDepth 100000 in
theorem putHead_has {vq va vb vm vp vu : Value} {m : Mg} {w : World} (h : HasM w vq va vb vm vp vu m) (ho : m.op = 0 ∨ m.op = 5) (hc0 : 0 ≤ m.code) (hc1 : m.code ≤ 10) (h1 : m.qs.length = 1) :
  Calls Tryz.prog 43 #[.agg #[.int .i64 m.id, .bool m.reply, .int .i64 m.op, .bool m.auth, .int .i64 m.code, vq, va, vb, vm, vp, vu]] w fun e w' => ∃ v', e = .returned v' ∧ Own w.heap.size 5 w' v' (headM m) ∧ Below w.heap.size w w' := by
 obtain ⟨xq, yq, rfl, _, zq⟩ := h.qs.form
 obtain ⟨xa, ya, rfl, _, za⟩ := h.ans.form
 obtain ⟨xb, yb, rfl, _, zb⟩ := h.aus.form
 obtain ⟨xm, ym, rfl, _, zm⟩ := h.more.form
 obtain ⟨xp, yp, rfl, _, zp⟩ := h.pres.form
 obtain ⟨xu, yu, rfl, _, zu⟩ := h.ups.form
 have b0 := below_alloc (w := w) (.cells #[.int .i64 m.id, .bool m.reply, .int .i64 m.op, .bool m.auth, .int .i64 m.code, .slice xq m.qs.length yq, .slice xa m.ans.length ya, .slice xb m.aus.length yb, .slice xm m.more.length ym, .slice xp m.pres.length yp, .slice xu m.ups.length yu] 33)
 have KK := hide (heap_alloc_new w (.cells #[.int .i64 m.id, .bool m.reply, .int .i64 m.op, .bool m.auth, .int .i64 m.code, .slice xq m.qs.length yq, .slice xa m.ans.length ya, .slice xb m.aus.length yb, .slice xm m.more.length ym, .slice xp m.pres.length yp, .slice xu m.ups.length yu] 33))
 have HF := hide (fun (w : World) (h : HasM w (.slice xq m.qs.length yq) (.slice xa m.ans.length ya) (.slice xb m.aus.length yb) (.slice xm m.more.length ym) (.slice xp m.pres.length yp) (.slice xu m.ups.length yu) m) => flagsOf_has h ho hc0 hc1)
 have H := hide (h.below b0)
 have e0 : headK m 0 = [] := rfl
 have e1 : headK m 1 = put16 (headK m 0) m.id := rfl
 have e2 : headK m 2 = put16 (headK m 1) (flagsM m) := rfl
 have e3 : headK m 3 = put16 (headK m 2) 1 := rfl
 have e4 : headK m 4 = put16 (headK m 3) (firstM m) := rfl
 have e5 : headK m 5 = put16 (headK m 4) (secondM m) := rfl
 have e6 : headK m 6 = put16 (headK m 5) m.more.length := rfl
 have HL := hide (headK_length m)
 have E0 := hide e0
 have E1 := hide e1
 have E2 := hide e2
 have E3 := hide e3
 have E4 := hide e4
 have E5 := hide e5
 have E6 := hide e6
 rw [← headK_all]
 have hfi := hide (show firstM m = if m.op = 5 then m.pres.length else m.ans.length from rfl)
 have hse := hide (show secondM m = if m.op = 5 then m.ups.length else m.aus.length from rfl)
 clear e0 e1 e2 e3 e4 e5 e6
 generalize headK m = HK at *
 generalize flagsM m = FL at *
 generalize firstM m = FI at *
 generalize secondM m = SE at *
 have hqI : ((m.qs.length : Nat) : Int) = 1 := by omega
 have HQ := hide hqI
 clear h h1 hqI
 unfold maxLen at *
 rcases ho with h0 | h5
 ·have o5 : (m.op == 5) = false := by rw [h0]; rfl
  have hfi' := unhide hfi
  rw [if_neg (by omega)] at hfi'
  have hse' := unhide hse
  rw [if_neg (by omega)] at hse'
  clear h0 hfi hse
  subst hfi' hse'
  go_enter Tryz.func43, Tryz.ntmps43
  obtain ⟨d0, d1, d2, d3, d4, d5, d6, d7, d8, d9, d10⟩ := cells11 (unhide KK)
  go_wp2_with fail
  go_quiet (fail)
  go_wp2_with fail
  have bq := below_draws (w := w.alloc (.cells #[.int .i64 m.id, .bool m.reply, .int .i64 m.op, .bool m.auth, .int .i64 m.code, .slice xq m.qs.length yq, .slice xa m.ans.length ya, .slice xb m.aus.length yb, .slice xm m.more.length ym, .slice xp m.pres.length yp, .slice xu m.ups.length yu] 33)) nq
  replace KK := hide (block_kept bq (unhide KK))
  replace H := hide ((unhide H).below bq)
  replace b0 := below_next b0 bq
  clear bq d0 d1 d2 d3 d4 d5 d6 d7 d8 d9 d10
  generalize (w.alloc (.cells #[.int .i64 m.id, .bool m.reply, .int .i64 m.op, .bool m.auth, .int .i64 m.code, .slice xq m.qs.length yq, .slice xa m.ans.length ya, .slice xb m.aus.length yb, .slice xm m.more.length ym, .slice xp m.pres.length yp, .slice xu m.ups.length yu] 33)).drewN nq = W at *
  have bd := below_drew (w := W)
  replace KK := hide (block_kept bd (unhide KK))
  replace H := hide ((unhide H).below bd)
  replace b0 := below_next b0 bd
  clear bd
  go_region_held3 (fun w' => w'.cell? ⟨w.heap.size, 0, none⟩ = some (.int .i64 m.id) ∧ w'.cell? ⟨w.heap.size, 1, none⟩ = some (.bool m.reply) ∧ w'.cell? ⟨w.heap.size, 2, none⟩ = some (.int .i64 m.op) ∧ w'.cell? ⟨w.heap.size, 3, none⟩ = some (.bool m.auth) ∧ w'.cell? ⟨w.heap.size, 4, none⟩ = some (.int .i64 m.code) ∧ w'.cell? ⟨w.heap.size, 5, none⟩ = some (.slice xq m.qs.length yq) ∧ w'.cell? ⟨w.heap.size, 6, none⟩ = some (.slice xa m.ans.length ya) ∧ w'.cell? ⟨w.heap.size, 7, none⟩ = some (.slice xb m.aus.length yb) ∧ w'.cell? ⟨w.heap.size, 8, none⟩ = some (.slice xm m.more.length ym) ∧ w'.cell? ⟨w.heap.size, 9, none⟩ = some (.slice xp m.pres.length yp) ∧ w'.cell? ⟨w.heap.size, 10, none⟩ = some (.slice xu m.ups.length yu))
   (first | exact cells11 (unhide KK) | exact cells11 (block_kept b2 (unhide KK)))
   (first
   | (go_at_call 88; refine (unhide HF _ (unhide H)).mono ?_; rintro e w2 ⟨rfl, b2⟩))
  replace b0 := below_next b0 b2
  have zb := b0.size
  have hq1 := unhide HQ
  clear b2 KK H HF
  rw [hq1]
  clear hq1
  go_wp2_with fail
  go_loopw [5, 36] (fun o i wr => ∃ k : Nat, k ≤ 6 ∧ i = .int .i64 k ∧ Own w.heap.size 5 wr o (HK k) ∧ Below w.heap.size w wr) (fun _ i _ => 6 - (intOf i).toNat)
  case atStart => exact ⟨0, Nat.zero_le _, rfl, by rw [unhide E0]; exact World.ownsRow_nil _ _ _ _, b0⟩
  case round =>
   obtain ⟨k, hk, rfl, ho, hb⟩ := hrel
   have hlk := unhide HL k
   have zw := hb.size
   clear b0 zb
   rcases (show k = 0 ∨ k = 1 ∨ k = 2 ∨ k = 3 ∨ k = 4 ∨ k = 5 ∨ k = 6 by omega) with rfl | rfl | rfl | rfl | rfl | rfl | rfl
   ·have hix := fun (a b c d e f : Value) (w : World) => index6_0 a b c d e f w
    go_wp2_with fail
    clear hix
    refine (implPut16w_any _ ho (by omega)).mono ?_
    rintro e w5 ⟨v5, rfl, o5, b5⟩
    rw [← unhide E1] at o5
    go_wp2_with fail
    exact ⟨⟨1, by omega, by go_num, o5.mono (by omega), hb.trans (b5.mono (by omega))⟩, by simp [intOf]⟩
   ·have hix := fun (a b c d e f : Value) (w : World) => index6_1 a b c d e f w
    go_wp2_with fail
    clear hix
    refine (implPut16w_any _ ho (by omega)).mono ?_
    rintro e w5 ⟨v5, rfl, o5, b5⟩
    rw [← unhide E2] at o5
    go_wp2_with fail
    exact ⟨⟨2, by omega, by go_num, o5.mono (by omega), hb.trans (b5.mono (by omega))⟩, by simp [intOf]⟩
   ·have hix := fun (a b c d e f : Value) (w : World) => index6_2 a b c d e f w
    go_wp2_with fail
    clear hix
    refine (implPut16w_any _ ho (by omega)).mono ?_
    rintro e w5 ⟨v5, rfl, o5, b5⟩
    rw [← unhide E3] at o5
    go_wp2_with fail
    exact ⟨⟨3, by omega, by go_num, o5.mono (by omega), hb.trans (b5.mono (by omega))⟩, by simp [intOf]⟩
   ·have hix := fun (a b c d e f : Value) (w : World) => index6_3 a b c d e f w
    go_wp2_with fail
    clear hix
    refine (implPut16w_any _ ho (by omega)).mono ?_
    rintro e w5 ⟨v5, rfl, o5, b5⟩
    rw [← unhide E4] at o5
    go_wp2_with fail
    exact ⟨⟨4, by omega, by go_num, o5.mono (by omega), hb.trans (b5.mono (by omega))⟩, by simp [intOf]⟩
   ·have hix := fun (a b c d e f : Value) (w : World) => index6_4 a b c d e f w
    go_wp2_with fail
    clear hix
    refine (implPut16w_any _ ho (by omega)).mono ?_
    rintro e w5 ⟨v5, rfl, o5, b5⟩
    rw [← unhide E5] at o5
    go_wp2_with fail
    exact ⟨⟨5, by omega, by go_num, o5.mono (by omega), hb.trans (b5.mono (by omega))⟩, by simp [intOf]⟩
   ·have hix := fun (a b c d e f : Value) (w : World) => index6_5 a b c d e f w
    go_wp2_with fail
    clear hix
    refine (implPut16w_any _ ho (by omega)).mono ?_
    rintro e w5 ⟨v5, rfl, o5, b5⟩
    rw [← unhide E6] at o5
    go_wp2_with fail
    exact ⟨⟨6, by omega, by go_num, o5.mono (by omega), hb.trans (b5.mono (by omega))⟩, by simp [intOf]⟩
   ·go_wp2_with fail
    go_ret
    exact ⟨_, rfl, ho, hb⟩
 ·have o5 : (m.op == 5) = true := by rw [h5]; rfl
  have hfi' := unhide hfi
  rw [if_pos h5] at hfi'
  have hse' := unhide hse
  rw [if_pos h5] at hse'
  clear h5 hfi hse
  subst hfi' hse'
  go_enter Tryz.func43, Tryz.ntmps43
  obtain ⟨d0, d1, d2, d3, d4, d5, d6, d7, d8, d9, d10⟩ := cells11 (unhide KK)
  go_wp2_with fail
  go_quiet (fail)
  go_wp2_with fail
  have bq := below_draws (w := w.alloc (.cells #[.int .i64 m.id, .bool m.reply, .int .i64 m.op, .bool m.auth, .int .i64 m.code, .slice xq m.qs.length yq, .slice xa m.ans.length ya, .slice xb m.aus.length yb, .slice xm m.more.length ym, .slice xp m.pres.length yp, .slice xu m.ups.length yu] 33)) nq
  replace KK := hide (block_kept bq (unhide KK))
  replace H := hide ((unhide H).below bq)
  replace b0 := below_next b0 bq
  clear bq d0 d1 d2 d3 d4 d5 d6 d7 d8 d9 d10
  generalize (w.alloc (.cells #[.int .i64 m.id, .bool m.reply, .int .i64 m.op, .bool m.auth, .int .i64 m.code, .slice xq m.qs.length yq, .slice xa m.ans.length ya, .slice xb m.aus.length yb, .slice xm m.more.length ym, .slice xp m.pres.length yp, .slice xu m.ups.length yu] 33)).drewN nq = W at *
  obtain ⟨d0, d1, d2, d3, d4, d5, d6, d7, d8, d9, d10⟩ := cells11 (unhide KK)
  go_quiet (fail)
  go_wp2_with fail
  have bq := below_draws (w := W) nq
  replace KK := hide (block_kept bq (unhide KK))
  replace H := hide ((unhide H).below bq)
  replace b0 := below_next b0 bq
  clear bq d0 d1 d2 d3 d4 d5 d6 d7 d8 d9 d10
  generalize W.drewN nq = W at *
  have bd := below_drew (w := W)
  replace KK := hide (block_kept bd (unhide KK))
  replace H := hide ((unhide H).below bd)
  replace b0 := below_next b0 bd
  clear bd
  go_region_held3 (fun w' => w'.cell? ⟨w.heap.size, 0, none⟩ = some (.int .i64 m.id) ∧ w'.cell? ⟨w.heap.size, 1, none⟩ = some (.bool m.reply) ∧ w'.cell? ⟨w.heap.size, 2, none⟩ = some (.int .i64 m.op) ∧ w'.cell? ⟨w.heap.size, 3, none⟩ = some (.bool m.auth) ∧ w'.cell? ⟨w.heap.size, 4, none⟩ = some (.int .i64 m.code) ∧ w'.cell? ⟨w.heap.size, 5, none⟩ = some (.slice xq m.qs.length yq) ∧ w'.cell? ⟨w.heap.size, 6, none⟩ = some (.slice xa m.ans.length ya) ∧ w'.cell? ⟨w.heap.size, 7, none⟩ = some (.slice xb m.aus.length yb) ∧ w'.cell? ⟨w.heap.size, 8, none⟩ = some (.slice xm m.more.length ym) ∧ w'.cell? ⟨w.heap.size, 9, none⟩ = some (.slice xp m.pres.length yp) ∧ w'.cell? ⟨w.heap.size, 10, none⟩ = some (.slice xu m.ups.length yu))
   (first | exact cells11 (unhide KK) | exact cells11 (block_kept b2 (unhide KK)))
   (first
   | (go_at_call 88; refine (unhide HF _ (unhide H)).mono ?_; rintro e w2 ⟨rfl, b2⟩))
  replace b0 := below_next b0 b2
  have zb := b0.size
  have hq1 := unhide HQ
  clear b2 KK H HF
  rw [hq1]
  clear hq1
  go_wp2_with fail
  go_loopw [5, 36] (fun o i wr => ∃ k : Nat, k ≤ 6 ∧ i = .int .i64 k ∧ Own w.heap.size 5 wr o (HK k) ∧ Below w.heap.size w wr) (fun _ i _ => 6 - (intOf i).toNat)
  case atStart => exact ⟨0, Nat.zero_le _, rfl, by rw [unhide E0]; exact World.ownsRow_nil _ _ _ _, b0⟩
  case round =>
   obtain ⟨k, hk, rfl, ho, hb⟩ := hrel
   have hlk := unhide HL k
   have zw := hb.size
   clear b0 zb
   rcases (show k = 0 ∨ k = 1 ∨ k = 2 ∨ k = 3 ∨ k = 4 ∨ k = 5 ∨ k = 6 by omega) with rfl | rfl | rfl | rfl | rfl | rfl | rfl
   ·have hix := fun (a b c d e f : Value) (w : World) => index6_0 a b c d e f w
    go_wp2_with fail
    clear hix
    refine (implPut16w_any _ ho (by omega)).mono ?_
    rintro e w5 ⟨v5, rfl, o5, b5⟩
    rw [← unhide E1] at o5
    go_wp2_with fail
    exact ⟨⟨1, by omega, by go_num, o5.mono (by omega), hb.trans (b5.mono (by omega))⟩, by simp [intOf]⟩
   ·have hix := fun (a b c d e f : Value) (w : World) => index6_1 a b c d e f w
    go_wp2_with fail
    clear hix
    refine (implPut16w_any _ ho (by omega)).mono ?_
    rintro e w5 ⟨v5, rfl, o5, b5⟩
    rw [← unhide E2] at o5
    go_wp2_with fail
    exact ⟨⟨2, by omega, by go_num, o5.mono (by omega), hb.trans (b5.mono (by omega))⟩, by simp [intOf]⟩
   ·have hix := fun (a b c d e f : Value) (w : World) => index6_2 a b c d e f w
    go_wp2_with fail
    clear hix
    refine (implPut16w_any _ ho (by omega)).mono ?_
    rintro e w5 ⟨v5, rfl, o5, b5⟩
    rw [← unhide E3] at o5
    go_wp2_with fail
    exact ⟨⟨3, by omega, by go_num, o5.mono (by omega), hb.trans (b5.mono (by omega))⟩, by simp [intOf]⟩
   ·have hix := fun (a b c d e f : Value) (w : World) => index6_3 a b c d e f w
    go_wp2_with fail
    clear hix
    refine (implPut16w_any _ ho (by omega)).mono ?_
    rintro e w5 ⟨v5, rfl, o5, b5⟩
    rw [← unhide E4] at o5
    go_wp2_with fail
    exact ⟨⟨4, by omega, by go_num, o5.mono (by omega), hb.trans (b5.mono (by omega))⟩, by simp [intOf]⟩
   ·have hix := fun (a b c d e f : Value) (w : World) => index6_4 a b c d e f w
    go_wp2_with fail
    clear hix
    refine (implPut16w_any _ ho (by omega)).mono ?_
    rintro e w5 ⟨v5, rfl, o5, b5⟩
    rw [← unhide E5] at o5
    go_wp2_with fail
    exact ⟨⟨5, by omega, by go_num, o5.mono (by omega), hb.trans (b5.mono (by omega))⟩, by simp [intOf]⟩
   ·have hix := fun (a b c d e f : Value) (w : World) => index6_5 a b c d e f w
    go_wp2_with fail
    clear hix
    refine (implPut16w_any _ ho (by omega)).mono ?_
    rintro e w5 ⟨v5, rfl, o5, b5⟩
    rw [← unhide E6] at o5
    go_wp2_with fail
    exact ⟨⟨6, by omega, by go_num, o5.mono (by omega), hb.trans (b5.mono (by omega))⟩, by simp [intOf]⟩
   ·go_wp2_with fail
    go_ret
    exact ⟨_, rfl, ho, hb⟩
end Go.Proofs.YtnplmeifhebhhaaGreat
