/-
  A region that draws its order, one way through it: what only looks is taken in the order of its number, whether its guard wants it or not. Contract of the program's AskOf where nothing is asked. Contracts of the program's inTurns.
-/
import Derived.Test.YtjgfljndeolmoaaFnInsidesG02
import Derived.Deep.RegionHeld3
import Derived.Test.YtjgfljndeolmoaaFnInsidesG36
import Derived.BigQuiet
namespace Go.Proofs.Ytjgfljndeolmoaa
open Go.RowKit
set_option linter.unusedVariables false

def nextF : List Bool → Nat
 | true :: l => nextF l + 1
 | _ => 0
def setF : List Bool → List Bool
 | true :: l => true :: setF l
 | false :: l => true :: l
 | [] => []
def dropF {α : Type} : List Bool → List α → List α
 | true :: l, _ :: m => dropF l m
 | _, m => m
theorem setF_eq : ∀ l : List Bool, l.set (nextF l) true = setF l
 | [] => rfl
 | false :: _ => rfl
 | true :: l => by simp [nextF, setF, setF_eq l]
theorem dropF_get {α : Type} {o : α} {r : List α} : ∀ (l : List Bool) (m : List α), dropF l m = o :: r → m[nextF l]? = some o
 | [], m, h => by simp only [dropF] at h; subst h; rfl
 | false :: _, m, h => by simp only [dropF] at h; subst h; rfl
 | true :: l, [], h => by simp only [dropF] at h; cases h
 | true :: l, _ :: m, h => by simp only [dropF] at h; simpa [nextF] using dropF_get l m h
def callsF : Op → Bool
 | .call _ => true
 | _ => false

section
variable {P : Program} {ops : Array Oper} {Q : Exit → Act → World → Prop} {md : Region.Mode} {S : World → Prop}
theorem ops_next {l : List Bool} {oi : Oper} {rest : List Oper} (hi : dropF l ops.toList = oi :: rest) : ops[nextF l]? = some oi := by
 have := dropF_get l ops.toList hi
 rwa [Array.getElem?_toList] at this
theorem ops_drop {i : Nat} {oi : Oper} {rest : List Oper} (hi : ops.toList.drop i = oi :: rest) : ops[i]? = some oi := by
 rw [← Array.getElem?_toList, ← List.head?_drop, hi]
 rfl
theorem listed_next (l : List Bool) : l.toArray.setIfInBounds (nextF l) true = (setF l).toArray := by
 rw [List.setIfInBounds_toArray, setF_eq]
/-- The next one is wanted and only looks. -/
theorem tkF (v : Value) {oi : Oper} {rest : List Oper} {fuel : Nat} {l : List Bool} {a : Act} {w : World} (hi : dropF l ops.toList = oi :: rest)
  (hk : (!callsF oi.op && Region.noSelect ops && Region.free md ops l.toArray (nextF l) && (Region.ready md ops l.toArray).contains (nextF l)) = true)
  (hb : Region.wanted oi (yielded ops a.tmps) = true) (hQ : ∀ c a w, Q (.panic c) (a.put oi.dst v) w → Q (.panic c) a w)
  (hy : ∀ w, S w → (execOp a.eval oi).run P w = .ok (.value v) w) (hS : S w)
  (h : wpAnyH P md ops Q S fuel (setF l).toArray (a.put oi.dst v) w) : wpAnyH P md ops Q S (fuel + 1) l.toArray a w := by
 simp only [Bool.and_eq_true] at hk
 refine wpAnyH_take (ops_next hi) hk.1.1.2 hk.1.2 hk.2 hQ (Or.inl ⟨hb, hy⟩) hS ?_
 rw [listed_next]
 exact h
/-- The next one is not wanted. -/
theorem skF {oi : Oper} {rest : List Oper} {fuel : Nat} {l : List Bool} {a : Act} {w : World} (hi : dropF l ops.toList = oi :: rest)
  (hk : (Region.noSelect ops && Region.free md ops l.toArray (nextF l) && (Region.ready md ops l.toArray).contains (nextF l)) = true)
  (hb : Region.wanted oi (yielded ops a.tmps) = false) (hQ : ∀ c a w, Q (.panic c) (a.put oi.dst undef) w → Q (.panic c) a w) (hS : S w)
  (h : wpAnyH P md ops Q S fuel (setF l).toArray (a.put oi.dst undef) w) : wpAnyH P md ops Q S (fuel + 1) l.toArray a w := by
 simp only [Bool.and_eq_true] at hk
 refine wpAnyH_take (ops_next hi) hk.1.1 hk.1.2 hk.2 hQ (Or.inr ⟨hb, rfl⟩) hS ?_
 rw [listed_next]
 exact h
/-- Number i is wanted and only looks. -/
theorem tkI (i : Nat) (v : Value) {oi : Oper} {rest : List Oper} {fuel : Nat} {listed : Array Bool} {a : Act} {w : World} (hi : ops.toList.drop i = oi :: rest)
  (hk : (Region.noSelect ops && Region.free md ops listed i && (Region.ready md ops listed).contains i) = true)
  (hb : Region.wanted oi (yielded ops a.tmps) = true) (hQ : ∀ c a w, Q (.panic c) (a.put oi.dst v) w → Q (.panic c) a w)
  (hy : ∀ w, S w → (execOp a.eval oi).run P w = .ok (.value v) w) (hS : S w)
  (h : wpAnyH P md ops Q S fuel (listed.setIfInBounds i true) (a.put oi.dst v) w) : wpAnyH P md ops Q S (fuel + 1) listed a w := by
 simp only [Bool.and_eq_true] at hk
 exact wpAnyH_take (ops_drop hi) hk.1.1 hk.1.2 hk.2 hQ (Or.inl ⟨hb, hy⟩) hS h
/-- Number i alone may come up: it is run, and S shown anew. -/
theorem runI (i : Nat) {oi : Oper} {rest : List Oper} {fuel : Nat} {listed : Array Bool} {a : Act} {w : World} (hi : ops.toList.drop i = oi :: rest)
  (hk : (Region.ready md ops listed == [i]) = true) (hb : Region.wanted oi (yielded ops a.tmps) = true)
  (h : ∀ K' : Act → World → Prop, Shut (∀ a w, S w → (S w → wpAnyH P md ops Q S fuel (listed.setIfInBounds i true) a w) → K' a w) → Oper.wp P oi a w K' Q) :
  wpAnyH P md ops Q S (fuel + 1) listed a w := by
 rw [beq_iff_eq] at hk
 refine wpAnyH_ready hk (by simp) (AllReadyH.cons (ops_drop hi) (fun K hK => ?_) AllReadyH.nil)
 rw [if_pos hb]
 exact h K hK
/-- The beginning. -/
theorem startF (n : Nat) {id : Nat} {a : Act} {w : World} (hm : P.follows .mixedOrders = true) (hn : ops.size = n) (hS : S w.drew)
  (h : S w.drew → wpAnyH P .any ops Q S n (List.replicate n false).toArray a w.drew) : (Code.region id ops true).wp P Q a w := by
 refine wp_region_held_drew hm hS (fun hH => ?_)
 have := h hH
 rw [← hn] at this
 rwa [← List.toArray_replicate]
end
end Go.Proofs.Ytjgfljndeolmoaa

namespace Go.Proofs.Ytjgfljndeolmoaa
open Go.RowKit
set_option linter.unusedVariables false

set_option maxHeartbeats 1000000 in
set_option maxRecDepth 100000 in
theorem implAskOf_no {vf vn vz vh vr va : Value} {t : Tk} {w : World} (h : HasTk w vf vn vz vh vr va t) (hs1 : t.hints.length ≤ 1048576) (hs2 : t.servers.length ≤ 1048576) (hn : askT t = false) :
  Calls Try.prog 49 #[.agg #[.int .i64 t.state, .int .i64 t.id, vf, .int .i64 t.fst.type, vn, vz, vh, vr, .int .i64 t.turn, .int .i64 t.sends, .int .i64 t.steps, .int .i64 t.code, va]] w fun e w' => ∃ uq ua ub um up uu, e = .returned (.tuple #[.int .i64 (askI t), .agg #[.int .i64 (askR t).id, .bool (askR t).reply, .int .i64 (askR t).op, .bool (askR t).auth, .int .i64 (askR t).code, uq, ua, ub, um, up, uu], .bool (askT t)]) ∧ OwnM w.heap.size w'.heap.size w' uq ua ub um up uu (askR t) ∧ Below w.heap.size w w' := by
 obtain ⟨xf, yf, rfl, _⟩ := h.fst.form
 obtain ⟨xn, yn, rfl, _⟩ := h.name.form
 obtain ⟨xz, yz, rfl, _⟩ := h.zone.form
 obtain ⟨xh, yh, rfl, _⟩ := h.hints.form
 obtain ⟨xr, yr, rfl, _⟩ := h.servers.form
 obtain ⟨xa, ya, rfl, _⟩ := h.ans.form
 obtain ⟨hsz, k0, r0⟩ := box2 w (.cells #[.int .i64 t.state, .int .i64 t.id, .slice xf t.fst.name.length yf, .int .i64 t.fst.type, .slice xn t.name.length yn, .slice xz t.zone.length yz, .slice xh t.hints.length yh, .slice xr t.servers.length yr, .int .i64 t.turn, .int .i64 t.sends, .int .i64 t.steps, .int .i64 t.code, .slice xa t.ans.length ya] 48) #[.int .i64 0, .bool false, .int .i64 0, .bool false, .int .i64 0, .slice none 0 0, .slice none 0 0, .slice none 0 0, .slice none 0 0, .slice none 0 0, .slice none 0 0] 85
 have b0 := below2 w (.cells #[.int .i64 t.state, .int .i64 t.id, .slice xf t.fst.name.length yf, .int .i64 t.fst.type, .slice xn t.name.length yn, .slice xz t.zone.length yz, .slice xh t.hints.length yh, .slice xr t.servers.length yr, .int .i64 t.turn, .int .i64 t.sends, .int .i64 t.steps, .int .i64 t.code, .slice xa t.ans.length ya] 48) (.cells #[.int .i64 0, .bool false, .int .i64 0, .bool false, .int .i64 0, .slice none 0 0, .slice none 0 0, .slice none 0 0, .slice none 0 0, .slice none 0 0, .slice none 0 0] 85)
 have HH := hide (h.below b0)
 have KK := hide k0
 have RR := hide r0
 have eI : askI t = 0 := by unfold askI; rw [hn]; rfl
 have eR : askR t = zeroM := by unfold askR; rw [hn]; rfl
 rw [eI, eR, hn]
 obtain ⟨d0, d1, d2, d3, d4, d5, d6, d7, d8, d9, d10, d11, d12⟩ := cells13 k0
 clear k0 r0 hsz h eI eR
 go_enter Try.func49, Try.ntmps49
 go_wp2_with fail
 clear d0 d1 d2 d3 d4 d5 d6 d7 d8 d9 d10 d11 d12
 have CL := isAsking_has (unhide HH) hs1 hs2
 rw [hn] at CL
 refine CL.mono ?_
 rintro e w1 ⟨rfl, b1⟩
 replace b0 := below_next b0 b1
 replace RR := hide (block_kept b1 (unhide RR))
 clear b1 CL
 obtain ⟨p0, p1, p2, p3, p4, p5, p6, p7, p8, p9, p10⟩ := cells11 (unhide RR)
 obtain ⟨q0, q1, q2, q3, q4, q5, q6, q7, q8, q9, q10⟩ := frozen11 (unhide RR)
 go_wp2_with fail
 obtain ⟨R7, u7⟩ := set11_is (c0 := .int .i64 0) (c1 := .bool false) (c2 := .int .i64 0) (c3 := .bool false) (c4 := .int .i64 0) (c5 := .slice none 0 0) (c6 := .slice none 0 0) (c7 := .slice none 0 0) (c8 := .slice none 0 0) (c9 := .slice none 0 0) (c10 := .slice none 0 0) (unhide RR)
 unfold set11 at R7 u7
 have bb := u7.below b0 (by omega)
 refine bodyPost_ret (results_tct rfl _ _ (w.heap.size + 1) 85 #[.int .i64 0, .bool false, .int .i64 0, .bool false, .int .i64 0, .slice none 0 0, .slice none 0 0, .slice none 0 0, .slice none 0 0, .slice none 0 0, .slice none 0 0] (0, 0) _ rfl R7 Try.underlying85 rfl (by kernel_rfl)) rfl ?_
 exact ⟨_, _, _, _, _, _, rfl, ownM_nil _ _ bb.size _, bb⟩
end Go.Proofs.Ytjgfljndeolmoaa

namespace Go.Proofs.Ytjgfljndeolmoaa
open Go.RowKit
set_option linter.unusedVariables false

set_option maxHeartbeats 1000000 in
set_option maxRecDepth 100000 in
theorem inTurns_has {b : Nat} {c0 c1 c2 c3 c4 c5 c6 c7 c9 c10 c11 c12 : Value} {turn : Int} {w : World} (h : w.heap[b]? = some (.cells #[c0, c1, c2, c3, c4, c5, c6, c7, .int .i64 turn, c9, c10, c11, c12] 48)) :
  Calls Try.prog 94 #[.pointer (some ⟨b, 0, none⟩)] w fun e w' => e = .returned (.func (Fn.func 120) #[] #[.pointer (some ⟨w.heap.size, 0, none⟩), .pointer (some ⟨w.heap.size + 1, 0, none⟩)]) ∧
   w'.heap[w.heap.size]? = some (.cells #[.pointer (some ⟨b, 0, none⟩)] 144) ∧ w'.heap[w.heap.size + 1]? = some (.cells #[.int .i64 turn] 3) ∧ Below w.heap.size w w' := by
 obtain ⟨hsz, k0, x0⟩ := box2 w (.cells #[.pointer (some ⟨b, 0, none⟩)] 144) #[.int .i64 turn] 3
 have b0 := below2 w (.cells #[.pointer (some ⟨b, 0, none⟩)] 144) (.cells #[.int .i64 turn] 3)
 have d0 := block_one (heap_alloc_new w (.cells #[.pointer (some ⟨b, 0, none⟩)] 144))
 obtain ⟨f0, f1, f2, f3, f4, f5, f6, f7, f8, f9, f10, f11, f12⟩ := cells13 (block_kept (below_alloc (w := w) (.cells #[.pointer (some ⟨b, 0, none⟩)] 144)) h)
 have K0 := hide k0
 have X0 := hide x0
 clear k0 x0 h hsz
 go_enter Try.func94, Try.ntmps94
 go_wp2_with fail
 go_ret
 exact ⟨rfl, unhide K0, unhide X0, b0⟩

set_option maxHeartbeats 1000000 in
set_option maxRecDepth 100000 in
theorem takeT_at {b p q sb so m c j : Nat} {ip : Int} {w : World} {c0 c1 c2 c3 c4 c5 c6 c8 c9 c10 c11 c12 : Value} (h : w.heap[b]? = some (.cells #[c0, c1, c2, c3, c4, c5, c6, .slice (some ⟨sb, so, none⟩) m c, c8, c9, c10, c11, c12] 48)) (hp : w.heap[p]? = some (.cells #[.pointer (some ⟨b, 0, none⟩)] 144)) (hq : w.heap[q]? = some (.cells #[.int .i64 (j : Int)] 3)) (hpq : p ≠ q) (hbq : b ≠ q) (hj : j < m) (hm : m ≤ 1048576) (hc : w.cell? ⟨sb, so + j, none⟩ = some (.int .i64 ip)) :
  Calls Try.prog 120 #[.pointer (some ⟨p, 0, none⟩), .pointer (some ⟨q, 0, none⟩)] w fun e w' => e = .returned (.tuple #[.int .i64 ip, .int .i64 (((j : Int) + 1).tmod m)]) ∧ Outside q (q + 1) w w' := by
 have f0 := block_one hp
 have f1 := block_one hq
 obtain ⟨d0, d1, d2, d3, d4, d5, d6, d7, d8, d9, d10, d11, d12⟩ := cells13 h
 have hjm : (j : Int) < m := by omega
 have hj1 : IntKind.i64.wrap ((j : Int) + 1) = (j : Int) + 1 := by
  have e : (j : Int) + 1 = ((j + 1 : Nat) : Int) := by omega
  rw [e]
  exact wrap_small _ (by omega)
 have hm0 : (m : Int) ≠ 0 := by omega
 have hm1 : ((m : Int) == 0) = false := by rw [beq_eq_false_iff_ne]; exact hm0
 have hm2 : m ≠ 0 := by omega
 have HH := hide h
 have HP := hide hp
 have HQ := hide hq
 clear h hp hq
 go_enter Try.func120, Try.ntmps120
 go_wp2_with fail
 go_quiet (fail)
 go_wp2_with fail
 have bd := below_next (below_draws (w := w) nq) (below_drew (w := w.drewN nq))
 have K1 := hide (block_kept bd (unhide HH))
 have P1 := hide (block_kept bd (unhide HP))
 have Q1 := hide (block_kept bd (unhide HQ))
 have U1 : Outside q (q + 1) w (w.drewN nq).drew := ⟨bd.os, bd.tape, bd.output, bd.size, fun k hk _ => bd.block k hk⟩
 clear bd HH HP HQ f0 f1 d0 d1 d2 d3 d4 d5 d6 d7 d8 d9 d10 d11 d12 hc
 refine startF 9 (S := (fun w' => w'.cell? ⟨p, 0, none⟩ = some (.pointer (some ⟨b, 0, none⟩)) ∧ w'.cell? ⟨b, 7, none⟩ = some (.slice (some ⟨sb, so, none⟩) m c))) (by kernel_rfl) rfl ⟨block_one (unhide P1), (cells13 (unhide K1)).2.2.2.2.2.2.2.1⟩ (fun hHeld => ?_)
 simp only [List.replicate]
 generalize (w.drewN nq).drew = W at *
 refine tkI 2 ?_ rfl (by kernel_rfl) (by kernel_rfl) (fun _ _ _ h => h) ?_ hHeld ?_; rotate_left; (· (intro w hSw; (try dsimp only at hSw); go_simp <;> with_reducible rfl)); simp only [Act.put, List.setIfInBounds_toArray, List.set_cons_zero, List.set_cons_succ]
 refine tkI 3 ?_ rfl (by kernel_rfl) (by kernel_rfl) (fun _ _ _ h => h) ?_ hHeld ?_; rotate_left; (· (intro w hSw; (try dsimp only at hSw); go_simp <;> with_reducible rfl)); simp only [Act.put, List.setIfInBounds_toArray, List.set_cons_zero, List.set_cons_succ]
 refine tkI 4 ?_ rfl (by kernel_rfl) (by kernel_rfl) (fun _ _ _ h => h) ?_ hHeld ?_; rotate_left; (· (intro w hSw; (try dsimp only at hSw); go_simp <;> with_reducible rfl)); simp only [Act.put, List.setIfInBounds_toArray, List.set_cons_zero, List.set_cons_succ]
 refine tkI 5 ?_ rfl (by kernel_rfl) (by kernel_rfl) (fun _ _ _ h => h) ?_ hHeld ?_; rotate_left; (· (intro w hSw; (try dsimp only at hSw); go_simp <;> with_reducible rfl)); simp only [Act.put, List.setIfInBounds_toArray, List.set_cons_zero, List.set_cons_succ]
 refine tkI 6 ?_ rfl (by kernel_rfl) (by kernel_rfl) (fun _ _ _ h => h) ?_ hHeld ?_; rotate_left; (· (intro w hSw; (try dsimp only at hSw); go_simp <;> with_reducible rfl)); simp only [Act.put, List.setIfInBounds_toArray, List.set_cons_zero, List.set_cons_succ]
 have fq := block_one (unhide Q1)
 refine runI 0 rfl (by kernel_rfl) (by kernel_rfl) (fun K hK => ?_)
 have HK := hide hK
 clear hK hHeld
 go_simp
 refine (unhide HK).out _ _ ⟨block_one (unhide P1), (cells13 (unhide K1)).2.2.2.2.2.2.2.1⟩ (fun hHeld => ?_)
 clear HK K
 simp only [List.setIfInBounds_toArray, List.set_cons_zero]
 repeat ((first | (refine tkF ?_ rfl (by kernel_rfl) (by rfl) (fun _ _ _ h => h) ?_ hHeld ?_; rotate_left; · (intro w hSw; (try dsimp only at hSw); go_simp <;> with_reducible rfl)) | refine skF rfl (by kernel_rfl) (by rfl) (fun _ _ _ h => h) hHeld ?_); simp only [Act.put, setF, List.setIfInBounds_toArray, List.set_cons_zero, List.set_cons_succ])
 have zq := block_frozen (unhide Q1) 0
 refine runI 8 rfl (by kernel_rfl) (by kernel_rfl) (fun K hK => ?_)
 have HK := hide hK
 clear hK hHeld
 go_simp
 refine (unhide HK).out _ _ ⟨block_one (block_other (unhide P1) (Ne.symm hpq) 0 _), (cells13 (block_other (unhide K1) (Ne.symm hbq) 0 _)).2.2.2.2.2.2.2.1⟩ (fun hHeld => ?_)
 clear HK K
 simp only [List.setIfInBounds_toArray, List.set_cons_zero, List.set_cons_succ]
 refine wpAnyH_done (by kernel_rfl) ?_ _
 clear hHeld
 have Q2 := block_setAt (unhide Q1) 0 (.int .i64 (((j : Int) + 1).tmod m))
 have u2 := outside_set W q 0 (.int .i64 (((j : Int) + 1).tmod m))
 generalize W.setCell ⟨q, 0, none⟩ (.int .i64 (((j : Int) + 1).tmod m)) = W2 at *
 generalize hx : ((j : Int) + 1).tmod m = x at *
 have HX := hide hx
 clear hx
 have f2 := block_one Q2
 have U2 := U1.trans u2
 clear u2 Q2 fq zq
 go_wp2_with fail
 go_quiet (fail)
 go_wp2_with fail
 go_ret2
 exact ⟨by rw [unhide HX]; rfl, U2.trans (outside_belA (below_draws _))⟩

theorem take_has {b p q sb so m c j : Nat} {ip : Int} {w : World} {c0 c1 c2 c3 c4 c5 c6 c8 c9 c10 c11 c12 : Value} (h : w.heap[b]? = some (.cells #[c0, c1, c2, c3, c4, c5, c6, .slice (some ⟨sb, so, none⟩) m c, c8, c9, c10, c11, c12] 48)) (hp : w.heap[p]? = some (.cells #[.pointer (some ⟨b, 0, none⟩)] 144)) (hq : w.heap[q]? = some (.cells #[.int .i64 (j : Int)] 3)) (hpq : p ≠ q) (hbq : b ≠ q) (hj : j < m) (hm : m ≤ 1048576) (hc : w.cell? ⟨sb, so + j, none⟩ = some (.int .i64 ip)) :
  Calls Try.prog 120 #[.pointer (some ⟨p, 0, none⟩), .pointer (some ⟨q, 0, none⟩)] w fun e w' => ∃ x : Int, e = .returned (.tuple #[.int .i64 ip, .int .i64 x]) ∧ Outside q (q + 1) w w' :=
 (takeT_at h hp hq hpq hbq hj hm hc).mono fun e w' hh => ⟨_, hh.1, hh.2⟩
end Go.Proofs.Ytjgfljndeolmoaa
