/-
  Contract of the specification's l5rr: a record under the house's name. Plain facts: an append of one record to a row of records. Contracts of the specification's l2bytes and l2cmp. A region that draws its order, one way through it: what only looks is taken in the order of its number, whether its guard wants it or not. Contracts of the specification's RrOk.
-/
import Derived.Test.YtfneahdnpmamkaaGreatFnOwnersG14
import Derived.Deep.Cut
import Derived.WalkLawsBesides
namespace Go.Proofs.YtfneahdnpmamkaaGreat
open Go.RowKit
set_option linter.unusedVariables false

set_option maxHeartbeats 4000000 in
set_option maxRecDepth 100000 in
theorem Xz {g : Nat} {a : Option Addr} {len cap : Nat} {w : World} (hc : Cur w g a len cap) (hL : Code w g a len) (hm : len ≤ maxLen) :
  Calls Tryz.prog 59 #[.pointer (some ⟨g, 0, none⟩)] w fun e w' => ∃ vn vt vx vi r, e = .returned (.agg #[vn, .int .i64 r.type, .int .i64 r.ttl, .int .i64 r.addr, vt, vx, vi]) ∧ rrOk r = true ∧ B9 w' vn vt vx vi r ∧ Cur w' g a len cap ∧ w.grownBy w' (some g) := by
 have hg := hc.lt
 have HM := UC hm
 have X0 := CurX.start hc hL
 have ba := UI (w := w) (.cells #[.slice none 0 0, .int .i64 0, .int .i64 0, .int .i64 0, .slice none 0 0, .slice none 0 0, .slice none 0 0] 39)
 have KB := UC (heap_alloc_new w (.cells #[.slice none 0 0, .int .i64 0, .int .i64 0, .int .i64 0, .slice none 0 0, .slice none 0 0, .slice none 0 0] 39))
 have X := UC (X0.below ba)
 have zb := VC (UB KB)
 clear hc hL hm X0 ba
 go_enter Tryz.func59, Tryz.ntmps59
 go_wp2_with fail
 generalize w.alloc (.cells #[.slice none 0 0, .int .i64 0, .int .i64 0, .int .i64 0, .slice none 0 0, .slice none 0 0, .slice none 0 0] 39) = W at *
 refine (Lo (UB X).cur (UB X).code (UB HM)).mono ?_
 rintro e w1 ⟨vn, vt, vx, vi, r, rfl, dq, _, DR, _, c1, g1⟩
 have HOK := UC (dq.2.2 rfl)
 obtain ⟨n1, n2, rfl, _⟩ := DR.hasR.name.form
 obtain ⟨t1, t2, rfl, _⟩ := DR.hasR.to.form
 obtain ⟨x1, x2, rfl, _⟩ := DR.hasR.text.form
 obtain ⟨i1, i2, rfl, _⟩ := DR.hasR.nums.form
 have z1 := g1.size
 have ba := UI (w := w1) (.cells #[.slice n1 r.name.length n2, .int .i64 r.type, .int .i64 r.ttl, .int .i64 r.addr, .slice t1 r.to.length t2, .slice x1 r.text.length x2, .slice i1 r.nums.length i2] 39)
 replace X := UC (((UB X).step c1 g1).below ba)
 replace KB := UC (UE ba (Aa g1 (UB KB) (by simp; omega)))
 have KR := UC (heap_alloc_new w1 (.cells #[.slice n1 r.name.length n2, .int .i64 r.type, .int .i64 r.ttl, .int .i64 r.addr, .slice t1 r.to.length t2, .slice x1 r.text.length x2, .slice i1 r.nums.length i2] 39))
 have DD := UC (DR.below ba)
 have zr := VC (UB KR)
 clear dq DR c1 g1 ba
 go_wp2_with fail
 generalize w1.alloc (.cells #[.slice n1 r.name.length n2, .int .i64 r.type, .int .i64 r.ttl, .int .i64 r.addr, .slice t1 r.to.length t2, .slice x1 r.text.length x2, .slice i1 r.nums.length i2] 39) = W2 at *
 refine (Ig (UB X).cur (UB X).code (UB HM)).mono ?_
 rintro e w3 ⟨v3, n, rfl, hn, on, c3, g3⟩
 obtain ⟨o1, o2, rfl, _⟩ := on.hasL.form
 have N := UC (on.ownT.mono (Nat.zero_le _))
 have HN := UC hn
 clear on hn
 replace DD := UC ((UB DD).cur (UB X).cur g3)
 replace KB := UC (Aa g3 (UB KB) (by simp; omega))
 replace KR := UC (Aa g3 (UB KR) (by simp; omega))
 replace X := UC ((UB X).step c3 g3)
 have zg3 := g3.size
 clear c3 g3
 obtain ⟨d0, d1, d2, d3, d4, d5, d6⟩ := UJ (UB KR)
 obtain ⟨f0, f1, f2, f3, f4, f5, f6⟩ := VI (UB KR)
 go_wp2_with fail
 clear d0 d1 d2 d3 d4 d5 d6 f0 f1 f2 f3 f4 f5 f6
 have gs := Ab w3 ⟨w1.heap.size, 0, none⟩ (.slice o1 n.length o2)
 replace DD := UC ((UB DD).off (UB KR) (by decide) (by decide) (by decide) gs)
 replace N := UC ((UB N).off (UB KR) (by decide) (by decide) gs)
 replace X := UC ((UB X).row gs (fun j e => by cases e; show w.heap.size ≤ w1.heap.size; omega))
 replace KB := UC (Aa gs (UB KB) (by simp; omega))
 have KR2 := UC (UV (UB KR) 0 (.slice o1 n.length o2))
 have zsW4 := gs.size
 clear gs KR
 have KR := KR2
 clear KR2
 generalize w3.setCell ⟨w1.heap.size, 0, none⟩ (.slice o1 n.length o2) = W4 at *
 refine (Eg 3 (UB X).cur (UB X).code (UB HM) (by omega) (by omega)).mono ?_
 rintro e w5 ⟨again, rfl, c5, g5⟩
 replace DD := UC ((UB DD).cur (UB X).cur g5)
 replace N := UC ((UB N).cur (UB X).cur g5)
 replace KB := UC (Aa g5 (UB KB) (by simp; omega))
 replace KR := UC (Aa g5 (UB KR) (by simp; omega))
 replace X := UC ((UB X).step c5 g5)
 have zg5 := g5.size
 clear c5 g5
 cases again
 ·-- as it is
  obtain ⟨d0, d1, d2, d3, d4, d5, d6⟩ := UJ (UB KR)
  obtain ⟨f0, f1, f2, f3, f4, f5, f6⟩ := VI (UB KR)
  obtain ⟨p0, p1, p2, p3, p4, p5, p6⟩ := UJ (UB KB)
  obtain ⟨q0, q1, q2, q3, q4, q5, q6⟩ := VI (UB KB)
  go_wp2_with fail
  clear d0 d1 d2 d3 d4 d5 d6 f0 f1 f2 f3 f4 f5 f6 p0 p1 p2 p3 p4 p5 p6 q0 q1 q2 q3 q4 q5 q6
  have gf := A8 w5 w.heap.size (c0 := .slice o1 n.length o2) (c1 := .int .i64 r.type) (c2 := .int .i64 r.ttl) (c3 := .int .i64 r.addr) (c4 := .slice t1 r.to.length t2) (c5 := .slice x1 r.text.length x2) (c6 := .slice i1 r.nums.length i2)
  have kf := Ur (c0 := .slice o1 n.length o2) (c1 := .int .i64 r.type) (c2 := .int .i64 r.ttl) (c3 := .int .i64 r.addr) (c4 := .slice t1 r.to.length t2) (c5 := .slice x1 r.text.length x2) (c6 := .slice i1 r.nums.length i2) (UB KB)
  have DF := (UB DD).off (UB KB) (by decide) (by decide) (by decide) gf
  have NF := (UB N).off (UB KB) (by decide) (by decide) gf
  have XF := (UB X).row gf (fun j e => by cases e; exact Nat.le_refl _)
  refine bodyPost_ret (results_cell_row rfl _ _ w.heap.size 39 #[.slice o1 n.length o2, .int .i64 r.type, .int .i64 r.ttl, .int .i64 r.addr, .slice t1 r.to.length t2, .slice x1 r.text.length x2, .slice i1 r.nums.length i2] (0, 0) _ rfl kf Tryz.underlying39 rfl (by kernel_rfl)) rfl ?_
  exact ⟨_, _, _, _, ⟨n, r.type, r.ttl, r.addr, r.to, r.text, r.nums⟩, rfl, Sa (UB HOK) (UB HN), ⟨NF, DF.to, DF.text, DF.nums⟩, XF.cur, XF.grown⟩
 ·-- where it leads
  obtain ⟨d0, d1, d2, d3, d4, d5, d6⟩ := UJ (UB KR)
  obtain ⟨f0, f1, f2, f3, f4, f5, f6⟩ := VI (UB KR)
  go_wp2_with fail
  clear d0 d1 d2 d3 d4 d5 d6 f0 f1 f2 f3 f4 f5 f6
  have gs := Ab w5 ⟨w1.heap.size, 4, none⟩ (.slice none 0 0)
  replace DD := UC ((UB DD).off (UB KR) (by decide) (by decide) (by decide) gs)
  replace N := UC ((UB N).off (UB KR) (by decide) (by decide) gs)
  replace X := UC ((UB X).row gs (fun j e => by cases e; show w.heap.size ≤ w1.heap.size; omega))
  replace KB := UC (Aa gs (UB KB) (by simp; omega))
  have KR2 := UC (UV (UB KR) 4 (.slice none 0 0))
  have zsW6 := gs.size
  clear gs KR
  have KR := KR2
  clear KR2
  generalize w5.setCell ⟨w1.heap.size, 4, none⟩ (.slice none 0 0) = W6 at *
  refine (VR r.type _ (A2 (UB HOK)).2.1).mono ?_
  rintro e wq ⟨rfl, rfl⟩
  have HK1 := UC (fun (to : List (List Int)) => Z4 (to := to) (UB HOK) (UB HN))
  cases hnm : named r.type
  ·-- none
   rw [hnm] at HK1
   obtain ⟨d0, d1, d2, d3, d4, d5, d6⟩ := UJ (UB KR)
   obtain ⟨f0, f1, f2, f3, f4, f5, f6⟩ := VI (UB KR)
   obtain ⟨p0, p1, p2, p3, p4, p5, p6⟩ := UJ (UB KB)
   obtain ⟨q0, q1, q2, q3, q4, q5, q6⟩ := VI (UB KB)
   go_wp2_with fail
   clear d0 d1 d2 d3 d4 d5 d6 f0 f1 f2 f3 f4 f5 f6 p0 p1 p2 p3 p4 p5 p6 q0 q1 q2 q3 q4 q5 q6
   have gf := A8 W6 w.heap.size (c0 := .slice o1 n.length o2) (c1 := .int .i64 r.type) (c2 := .int .i64 r.ttl) (c3 := .int .i64 r.addr) (c4 := .slice none 0 0) (c5 := .slice x1 r.text.length x2) (c6 := .slice i1 r.nums.length i2)
   have kf := Ur (c0 := .slice o1 n.length o2) (c1 := .int .i64 r.type) (c2 := .int .i64 r.ttl) (c3 := .int .i64 r.addr) (c4 := .slice none 0 0) (c5 := .slice x1 r.text.length x2) (c6 := .slice i1 r.nums.length i2) (UB KB)
   have DF := (UB DD).off (UB KB) (by decide) (by decide) (by decide) gf
   have NF := (UB N).off (UB KB) (by decide) (by decide) gf
   have XF := (UB X).row gf (fun j e => by cases e; exact Nat.le_refl _)
   refine bodyPost_ret (results_cell_row rfl _ _ w.heap.size 39 #[.slice o1 n.length o2, .int .i64 r.type, .int .i64 r.ttl, .int .i64 r.addr, .slice none 0 0, .slice x1 r.text.length x2, .slice i1 r.nums.length i2] (0, 0) _ rfl kf Tryz.underlying39 rfl (by kernel_rfl)) rfl ?_
   exact ⟨_, _, _, _, ⟨n, r.type, r.ttl, r.addr, [], r.text, r.nums⟩, rfl, UB HK1 _ (fun q => by cases q) (fun _ => rfl), ⟨NF, Sw _, DF.text, DF.nums⟩, XF.cur, XF.grown⟩
  ·-- another one
   rw [hnm] at HK1
   go_wp2_with fail
   refine (Ig (UB X).cur (UB X).code (UB HM)).mono ?_
   rintro e w7 ⟨v7, m, rfl, hm7, om, c7, g7⟩
   obtain ⟨m1, m2, rfl, _⟩ := om.hasL.form
   have T := UC (om.ownT.mono (Nat.zero_le _))
   have HM7 := UC hm7
   clear om hm7
   replace DD := UC ((UB DD).cur (UB X).cur g7)
   replace N := UC ((UB N).cur (UB X).cur g7)
   replace KB := UC (Aa g7 (UB KB) (by simp; omega))
   replace KR := UC (Aa g7 (UB KR) (by simp; omega))
   replace X := UC ((UB X).step c7 g7)
   have zg7 := g7.size
   clear c7 g7
   obtain ⟨d0, d1, d2, d3, d4, d5, d6⟩ := UJ (UB KR)
   obtain ⟨f0, f1, f2, f3, f4, f5, f6⟩ := VI (UB KR)
   go_upto_region 7 with fail
   clear d0 d1 d2 d3 d4 d5 d6 f0 f1 f2 f3 f4 f5 f6
   have gs := Ab w7 ⟨w1.heap.size, 4, none⟩ (.slice m1 m.length m2)
   replace DD := UC ((UB DD).off (UB KR) (by decide) (by decide) (by decide) gs)
   replace N := UC ((UB N).off (UB KR) (by decide) (by decide) gs)
   replace T := UC ((UB T).off (UB KR) (by decide) (by decide) gs)
   replace X := UC ((UB X).row gs (fun j e => by cases e; show w.heap.size ≤ w1.heap.size; omega))
   replace KB := UC (Aa gs (UB KB) (by simp; omega))
   have KR2 := UC (UV (UB KR) 4 (.slice m1 m.length m2))
   have zsW8 := gs.size
   clear gs KR
   have KR := KR2
   clear KR2
   generalize w7.setCell ⟨w1.heap.size, 4, none⟩ (.slice m1 m.length m2) = W8 at *
   obtain ⟨d0, d1, d2, d3, d4, d5, d6⟩ := UJ (UB KR)
   obtain ⟨f0, f1, f2, f3, f4, f5, f6⟩ := VI (UB KR)
   obtain ⟨p0, p1, p2, p3, p4, p5, p6⟩ := UJ (UB KB)
   obtain ⟨q0, q1, q2, q3, q4, q5, q6⟩ := VI (UB KB)
   go_wp2_with fail
   clear d0 d1 d2 d3 d4 d5 d6 f0 f1 f2 f3 f4 f5 f6 p0 p1 p2 p3 p4 p5 p6 q0 q1 q2 q3 q4 q5 q6
   have gf := A8 W8 w.heap.size (c0 := .slice o1 n.length o2) (c1 := .int .i64 r.type) (c2 := .int .i64 r.ttl) (c3 := .int .i64 r.addr) (c4 := .slice m1 m.length m2) (c5 := .slice x1 r.text.length x2) (c6 := .slice i1 r.nums.length i2)
   have kf := Ur (c0 := .slice o1 n.length o2) (c1 := .int .i64 r.type) (c2 := .int .i64 r.ttl) (c3 := .int .i64 r.addr) (c4 := .slice m1 m.length m2) (c5 := .slice x1 r.text.length x2) (c6 := .slice i1 r.nums.length i2) (UB KB)
   have DF := (UB DD).off (UB KB) (by decide) (by decide) (by decide) gf
   have NF := (UB N).off (UB KB) (by decide) (by decide) gf
   have TF := (UB T).off (UB KB) (by decide) (by decide) gf
   have XF := (UB X).row gf (fun j e => by cases e; exact Nat.le_refl _)
   refine bodyPost_ret (results_cell_row rfl _ _ w.heap.size 39 #[.slice o1 n.length o2, .int .i64 r.type, .int .i64 r.ttl, .int .i64 r.addr, .slice m1 m.length m2, .slice x1 r.text.length x2, .slice i1 r.nums.length i2] (0, 0) _ rfl kf Tryz.underlying39 rfl (by kernel_rfl)) rfl ?_
   exact ⟨_, _, _, _, ⟨n, r.type, r.ttl, r.addr, m, r.text, r.nums⟩, rfl, UB HK1 _ (fun _ => UB HM7) (fun q => by cases q), ⟨NF, TF, DF.text, DF.nums⟩, XF.cur, XF.grown⟩
theorem At {B n size : Nat} {e : TypeId} {w w' : World} {v : Value} {xs : List Value} (h : w.ownsRow B e size v n xs) (hb : Below w.heap.size w w') : w'.ownsRow B e size v n xs :=
 World.ownsRow.kept h (Ac hb) (by cases hv : v.ownBlock with | none => exact .inl rfl | some k => exact .inr (by simp))
theorem A5 {P : Program} {w : World} {ops : Array Oper} {rest : List Oper} {o : Oper} {a : Act} {Q : Exit → Act → World → Prop} (hgd : o.guard = none) (s x : Operand) (t e : TypeId)
  (ho : o.op = .call { callee := .builtin .append, args := #[s, x], argTypes := #[t, t] }) (ht : P.underlying t = some (.slice e)) (zs : Array Value)
  (hinfo : (P.info? e).map (fun i => (i.zero, i.size, i.bytes)) = some (some (.agg zs), 7, 120)) (hzs : zs.size = 7)
  (base : Nat) (v : Value) (n : Nat) (xs : List Value) (hs : a.eval s = v) (hown : w.ownsRow base e 7 v n xs) (g : Nat) (cs : List Value) (hx : a.eval x = .slice (some ⟨g, 0, none⟩) 1 1)
  (hg : w.heap[g]? = some (.cells cs.toArray e)) (hcl : cs.length = 7) (h1 : ∀ u ∈ cs, u.oneCell' = true) (hlen : n ≤ 1000) (hbase : base ≤ w.heap.size)
  (h : ∀ v' w', w'.ownsRow base e 7 v' (n + 1) (xs ++ cs) → w.grownBy w' v.ownBlock → wpList P ops Q rest (a.put o.dst v') w') : wpList P ops Q (o :: rest) a w := by
 obtain ⟨i0, hi, hzz⟩ := Option.map_eq_some_iff.1 hinfo
 simp only [Prod.mk.injEq] at hzz
 obtain ⟨hz0, hz1, hz2⟩ := hzz
 refine wpList_append_own w hgd s x t ho base e i0 (.agg zs) 7 120 ht hi hz0 hz1 hz2 hzs (by decide) v n xs hs hown ⟨g, 0, none⟩ 1 1 cs hx (by rw [hcl]) (fun j u hj => ?_) h1 (by unfold maxLen; omega) (by omega) hbase ?_
 ·rw [Addr.add_lit, Nat.zero_add, VE hg]
  simpa using hj
 ·intro v' w' q1 q2 _
  exact h v' w' q1 q2
set_option maxHeartbeats 1000000
set_option maxRecDepth 100000

theorem Ld {v v' : Value} {l l' : List Int} {w : World} (h : Has w v l) (h' : Has w v' l') :
  Calls Tryz.prog 52 #[v, v'] w fun e w' => e = .returned (.int .i64 (cmpB l l')) ∧ w = w' := by
 have hc := Fl h
 have hc' := Fl h'
 have hlt := Y7 l l'
 have heq := Sb l l'
 clear h h'
 rcases Fm l l' with e | e | e
 ·rw [e] at hlt heq ⊢
  simp only [decide_true] at hlt
  clear heq e
  go_enter Tryz.func52, Tryz.ntmps52
  go_wp2
  go_ret
  exact ⟨rfl, rfl⟩
 ·rw [e] at hlt heq ⊢
  simp only [decide_true] at heq
  rw [decide_eq_false (by omega)] at hlt
  clear e
  go_enter Tryz.func52, Tryz.ntmps52
  go_wp2
  go_ret
  exact ⟨rfl, rfl⟩
 ·rw [e] at hlt heq ⊢
  rw [decide_eq_false (by omega)] at hlt heq
  clear e
  go_enter Tryz.func52, Tryz.ntmps52
  go_wp2
  go_ret
  exact ⟨rfl, rfl⟩

theorem Oo {v v' : Value} {l l' : List Int} {w : World} (h : Has w v l) (h' : Has w v' l') (n : Nat) :
  Calls Tryz.prog 52 #[v, v'] (w.drewN n) fun e w'' => e = .returned (.int .i64 (cmpB l l')) ∧ ∃ m, w'' = w.drewN m :=
 (Ld (h.below (Cr n)) (h'.below (Cr n))).mono fun e w' ⟨he, hw⟩ => ⟨he, n, hw.symm⟩

theorem El {v v' : Value} {n n' : List (List Int)} {w : World} (h : HasL w v n) (h' : HasL w v' n') (hs : n.length ≤ 1048576) (hs' : n'.length ≤ 1048576) :
  Calls Tryz.prog 27 #[.agg #[v], .agg #[v']] w fun e w' => e = .returned (.int .i64 (cmpN n n')) ∧ Below w.heap.size w w' := by
 obtain ⟨a, cap, rfl, hl, hm⟩ := h.form
 obtain ⟨a', cap', rfl, hl', hm'⟩ := h'.form
 unfold maxLen at hm hm'
 have HIT := UC (fun (k : Nat) => Sm (a := n) (b := n') (k := k))
 have NON := UC (fun (k : Nat) => P3 (a := n) (b := n') (k := k))
 have HAT := UC (S6 n n')
 generalize hR : cmpN n n' = R at *
 clear hR
 generalize hC : Fz n n' = C at *
 clear hC
 have b1 := UI (w := w) (.cells #[.slice a n.length cap] 25)
 have k1 := heap_alloc_new w (.cells #[.slice a n.length cap] 25)
 have e1 : (w.alloc (.cells #[.slice a n.length cap] 25)).heap.size = w.heap.size + 1 := by show (w.heap.push _).size = _; simp
 have b2 := UI (w := w.alloc (.cells #[.slice a n.length cap] 25)) (.cells #[.slice a' n'.length cap'] 25)
 have x2 := heap_alloc_new (w.alloc (.cells #[.slice a n.length cap] 25)) (.cells #[.slice a' n'.length cap'] 25)
 have k2 := UE b2 k1
 rw [e1] at x2
 have bb2 := UG b1 b2
 have h2 := UC (h.below bb2)
 have h2' := UC (h'.below bb2)
 have HH := UC h
 have HH' := UC h'
 clear h h' b1 b2 k1 e1
 generalize hn : n.length = m at *
 have HN := UC hn
 clear hn
 generalize hn' : n'.length = m' at *
 have HN' := UC hn'
 clear hn'
 go_enter Tryz.func27, Tryz.ntmps27
 go_wp2
 generalize (w.alloc (.cells #[.slice a m cap] 25)).alloc (.cells #[.slice a' m' cap'] 25) = W at *
 go_loopw [5] (fun i wr => ∃ k : Nat, 1 ≤ k ∧ k ≤ m + 1 ∧ k ≤ m' + 1 ∧ i = .int .i64 k ∧ Hid (∀ j, 1 ≤ j → j < k → C j = 0) ∧ Below W.heap.size W wr) (fun i _ => m + 1 - (intOf i).toNat)
 case atStart => exact ⟨1, Nat.le_refl _, by omega, by omega, rfl, UC (fun j h1 h2 => absurd h2 (by omega)), Below.refl _ _⟩
 case round =>
  obtain ⟨k, hk1, hk2, hk3, rfl, hall, hb⟩ := hrel
  have c1 := US (UE hb k2)
  have c2 := US (UE hb x2)
  by_cases hlt : k ≤ m
  ·by_cases hlt' : k ≤ m'
   ·obtain ⟨b, off, u, rfl, hbl, hc, hu⟩ := ((UB h2).below hb).here (k := m - k) (by rw [UB HN]; omega)
    obtain ⟨b', off', u', rfl, hbl', hc', hu'⟩ := ((UB h2').below hb).here (k := m' - k) (by rw [UB HN']; omega)
    have hat := UC (UB HAT k)
    have hhit := UC (fun (hz : C k ≠ 0) => UB HIT k hk1 hlt hlt' (UB hall) hz)
    have hone := UC (fun (hz : C k = 0) => (show ∀ j, 1 ≤ j → j < k + 1 → C j = 0 from fun j h1 h2 => by
      by_cases e : j = k
      ·subst e; exact hz
      ·exact UB hall j h1 (by omega)))
    generalize n.getD (m - k) [] = lab at *
    generalize n'.getD (m' - k) [] = lab' at *
    obtain ⟨j, hj⟩ : ∃ j : Nat, m - k = j := ⟨_, rfl⟩
    obtain ⟨j', hj'⟩ : ∃ j' : Nat, m' - k = j' := ⟨_, rfl⟩
    rw [hj] at hc
    rw [hj'] at hc'
    have s1 : (m : Int) - k = j := by omega
    have s2 : (m' : Int) - k = j' := by omega
    have jl : j < m := by omega
    have jl' : j' < m' := by omega
    have wj : IntKind.i64.wrap (j : Int) = j := Az j (by omega)
    have wj' : IntKind.i64.wrap (j' : Int) = j' := Az j' (by omega)
    have HU := UC hu
    have HU' := UC hu'
    obtain ⟨ua, uc, rfl, _⟩ := hu.form
    obtain ⟨ua', uc', rfl, _⟩ := hu'.form
    clear hu hu'
    have i1 : (k : Int) ≤ m := by omega
    have i2 : (k : Int) ≤ m' := by omega
    go_wp2
    go_quiet (first | (exact Oo (UB HU) (UB HU') _))
    clear wj wj' s1 s2 hj hj' jl jl' hc hc' c1 c2 i1 i2 hl hl' hm hm'
    have bb := UG hb (Cr (w := wr) nq)
    have hcs := Fm lab lab'
    generalize cmpB lab lab' = c at *
    rcases hcs with rfl | rfl | rfl
    ·have hr := UB hhit (by rw [UB hat]; omega)
     rw [UB hat] at hr
     subst hr
     go_wp2
     go_ret
     exact ⟨rfl, UG bb2 bb⟩
    ·go_wp2
     exact ⟨⟨k + 1, by omega, by omega, by omega, by go_num, UC (UB hone (UB hat)), bb⟩, by simp [intOf]; omega⟩
    ·have hr := UB hhit (by rw [UB hat]; omega)
     rw [UB hat] at hr
     subst hr
     go_wp2
     go_ret
     exact ⟨rfl, UG bb2 bb⟩
   ·have hr := UB NON k (.inr (by omega)) (UB hall)
    unfold A4 at hr
    rw [if_neg (by omega), if_pos (by omega)] at hr
    subst hr
    have i1 : (k : Int) ≤ m := by omega
    have i2 : ¬ (k : Int) ≤ m' := by omega
    have i3 : ((m : Int) == m') = false := by rw [beq_eq_false_iff_ne]; omega
    have i4 : ¬ (m : Int) < m' := by omega
    go_wp2
    go_ret
    exact ⟨rfl, UG bb2 hb⟩
  ·have i1 : ¬ (k : Int) ≤ m := by omega
   have hr := UB NON k (.inl (by omega)) (UB hall)
   unfold A4 at hr
   by_cases he : m = m'
   ·subst he
    rw [if_neg (by omega), if_neg (by omega)] at hr
    subst hr
    go_wp2
    go_ret
    exact ⟨rfl, UG bb2 hb⟩
   ·rw [if_pos (by omega)] at hr
    subst hr
    have i3 : ((m : Int) == m') = false := by rw [beq_eq_false_iff_ne]; omega
    have i4 : (m : Int) < m' := by omega
    go_wp2
    go_ret
    exact ⟨rfl, UG bb2 hb⟩

def Ie : List Bool → Nat
 | true :: l => Ie l + 1
 | _ => 0
def setF : List Bool → List Bool
 | true :: l => true :: setF l
 | false :: l => true :: l
 | [] => []
def Jm {α : Type} : List Bool → List α → List α
 | true :: l, _ :: m => Jm l m
 | _, m => m
theorem U6 : ∀ l : List Bool, l.set (Ie l) true = setF l
 | [] => rfl
 | false :: _ => rfl
 | true :: l => by simp [Ie, setF, U6 l]
theorem Pu {α : Type} {o : α} {r : List α} : ∀ (l : List Bool) (m : List α), Jm l m = o :: r → m[Ie l]? = some o
 | [], m, h => by simp only [Jm] at h; subst h; rfl
 | false :: _, m, h => by simp only [Jm] at h; subst h; rfl
 | true :: l, [], h => by simp only [Jm] at h; cases h
 | true :: l, _ :: m, h => by simp only [Jm] at h; simpa [Ie] using Pu l m h
def callsF : Op → Bool
 | .call _ => true
 | _ => false

section
variable {P : Program} {ops : Array Oper} {Q : Exit → Act → World → Prop} {md : Region.Mode} {S : World → Prop}
theorem Rb {l : List Bool} {oi : Oper} {rest : List Oper} (hi : Jm l ops.toList = oi :: rest) : ops[Ie l]? = some oi := by
 have := Pu l ops.toList hi
 rwa [Array.getElem?_toList] at this
theorem UY {i : Nat} {oi : Oper} {rest : List Oper} (hi : ops.toList.drop i = oi :: rest) : ops[i]? = some oi := by
 rw [← Array.getElem?_toList, ← List.head?_drop, hi]
 rfl
theorem Lh (l : List Bool) : l.toArray.setIfInBounds (Ie l) true = (setF l).toArray := by
 rw [List.setIfInBounds_toArray, U6]
theorem tkF (v : Value) {oi : Oper} {rest : List Oper} {fuel : Nat} {l : List Bool} {a : Act} {w : World} (hi : Jm l ops.toList = oi :: rest)
  (hk : (!callsF oi.op && Region.noSelect ops && Region.free md ops l.toArray (Ie l) && (Region.ready md ops l.toArray).contains (Ie l)) = true)
  (hb : Region.wanted oi (yielded ops a.tmps) = true) (hQ : ∀ c a w, Q (.panic c) (a.put oi.dst v) w → Q (.panic c) a w)
  (hy : ∀ w, S w → (execOp a.eval oi).run P w = .ok (.value v) w) (hS : S w)
  (h : wpAnyH P md ops Q S fuel (setF l).toArray (a.put oi.dst v) w) : wpAnyH P md ops Q S (fuel + 1) l.toArray a w := by
 simp only [Bool.and_eq_true] at hk
 refine wpAnyH_take (Rb hi) hk.1.1.2 hk.1.2 hk.2 hQ (Or.inl ⟨hb, hy⟩) hS ?_
 rw [Lh]
 exact h
theorem skF {oi : Oper} {rest : List Oper} {fuel : Nat} {l : List Bool} {a : Act} {w : World} (hi : Jm l ops.toList = oi :: rest)
  (hk : (Region.noSelect ops && Region.free md ops l.toArray (Ie l) && (Region.ready md ops l.toArray).contains (Ie l)) = true)
  (hb : Region.wanted oi (yielded ops a.tmps) = false) (hQ : ∀ c a w, Q (.panic c) (a.put oi.dst undef) w → Q (.panic c) a w) (hS : S w)
  (h : wpAnyH P md ops Q S fuel (setF l).toArray (a.put oi.dst undef) w) : wpAnyH P md ops Q S (fuel + 1) l.toArray a w := by
 simp only [Bool.and_eq_true] at hk
 refine wpAnyH_take (Rb hi) hk.1.1 hk.1.2 hk.2 hQ (Or.inr ⟨hb, rfl⟩) hS ?_
 rw [Lh]
 exact h
theorem tkI (i : Nat) (v : Value) {oi : Oper} {rest : List Oper} {fuel : Nat} {listed : Array Bool} {a : Act} {w : World} (hi : ops.toList.drop i = oi :: rest)
  (hk : (Region.noSelect ops && Region.free md ops listed i && (Region.ready md ops listed).contains i) = true)
  (hb : Region.wanted oi (yielded ops a.tmps) = true) (hQ : ∀ c a w, Q (.panic c) (a.put oi.dst v) w → Q (.panic c) a w)
  (hy : ∀ w, S w → (execOp a.eval oi).run P w = .ok (.value v) w) (hS : S w)
  (h : wpAnyH P md ops Q S fuel (listed.setIfInBounds i true) (a.put oi.dst v) w) : wpAnyH P md ops Q S (fuel + 1) listed a w := by
 simp only [Bool.and_eq_true] at hk
 exact wpAnyH_take (UY hi) hk.1.1 hk.1.2 hk.2 hQ (Or.inl ⟨hb, hy⟩) hS h
theorem runI (i : Nat) {oi : Oper} {rest : List Oper} {fuel : Nat} {listed : Array Bool} {a : Act} {w : World} (hi : ops.toList.drop i = oi :: rest)
  (hk : (Region.ready md ops listed == [i]) = true) (hb : Region.wanted oi (yielded ops a.tmps) = true)
  (h : ∀ K' : Act → World → Prop, Shut (∀ a w, S w → (S w → wpAnyH P md ops Q S fuel (listed.setIfInBounds i true) a w) → K' a w) → Oper.wp P oi a w K' Q) :
  wpAnyH P md ops Q S (fuel + 1) listed a w := by
 rw [beq_iff_eq] at hk
 refine wpAnyH_ready hk (by simp) (AllReadyH.cons (UY hi) (fun K hK => ?_) AllReadyH.nil)
 rw [if_pos hb]
 exact h K hK
theorem Fi (n : Nat) {id : Nat} {a : Act} {w : World} (hm : P.follows .mixedOrders = true) (hn : ops.size = n) (hS : S w.drew)
  (h : S w.drew → wpAnyH P .any ops Q S n (List.replicate n false).toArray a w.drew) : (Code.region id ops true).wp P Q a w := by
 refine wp_region_held_drew hm hS (fun hH => ?_)
 have := h hH
 rw [← hn] at this
 rwa [← List.toArray_replicate]
end
set_option maxHeartbeats 800000 in
set_option maxRecDepth 100000 in
theorem Gy {vn vt vx vi : Value} {r : Rec} {w : World} (h : HasR w vn vt vx vi r) :
  Calls Tryz.prog 23 #[.agg #[vn, .int .i64 r.type, .int .i64 r.ttl, .int .i64 r.addr, vt, vx, vi]] w fun e w' => e = .returned (.bool (rrOk r)) ∧ Below w.heap.size w w' := by
 obtain ⟨na, nc, rfl, _⟩ := h.name.form
 obtain ⟨ta, tc, rfl, _⟩ := h.to.form
 obtain ⟨xa, xc, rfl, _⟩ := h.text.form
 obtain ⟨ia, ic, rfl, _⟩ := h.nums.form
 have b0 := UI (w := w) (.cells #[.slice na r.name.length nc, .int .i64 r.type, .int .i64 r.ttl, .int .i64 r.addr, .slice ta r.to.length tc, .slice xa r.text.length xc, .slice ia r.nums.length ic] 39)
 have K0 := UC (heap_alloc_new w (.cells #[.slice na r.name.length nc, .int .i64 r.type, .int .i64 r.ttl, .int .i64 r.addr, .slice ta r.to.length tc, .slice xa r.text.length xc, .slice ia r.nums.length ic] 39))
 have H0 := UC (h.below b0)
 clear h
 have LD := UC (fun (w : World) (vn vt vx vi : Value) (h : HasR w vn vt vx vi r) (ht : Ax r.type = true) => T0 h ht)
 unfold rrOk
 have SN := UC (fun (w : World) (v : Value) (h : HasL w v r.name) => VO h)
 have ST := UC (Mk r.type)
 generalize Bg r = D at *
 generalize hN : Ag r.name = N at *
 generalize hT : Ax r.type = T at *
 clear hN
 cases N with
 | false =>
  rw [Bool.false_and]
  go_enter Tryz.func23, Tryz.ntmps23
  go_wp2_with fail
  generalize w.alloc (.cells #[.slice na r.name.length nc, .int .i64 r.type, .int .i64 r.ttl, .int .i64 r.addr, .slice ta r.to.length tc, .slice xa r.text.length xc, .slice ia r.nums.length ic] 39) = W at *
  refine (UB SN _ _ (UB H0).name).mono ?_
  rintro e w1 ⟨rfl, b1⟩
  go_wp2_with fail
  go_ret
  exact ⟨rfl, UG b0 b1⟩
 | true =>
  rw [Bool.true_and]
  cases T with
  | false =>
   rw [Bool.false_and]
   go_enter Tryz.func23, Tryz.ntmps23
   go_wp2_with fail
   generalize w.alloc (.cells #[.slice na r.name.length nc, .int .i64 r.type, .int .i64 r.ttl, .int .i64 r.addr, .slice ta r.to.length tc, .slice xa r.text.length xc, .slice ia r.nums.length ic] 39) = W at *
   refine (UB SN _ _ (UB H0).name).mono ?_
   rintro e w1 ⟨rfl, b1⟩
   have K1 := UC (UE b1 (UB K0))
   obtain ⟨d0, d1, d2, d3, d4, d5, d6⟩ := UJ (UB K1)
   go_wp2_with fail
   refine (UB ST _).mono ?_
   rintro e w2 ⟨rfl, rfl⟩
   go_wp2_with fail
   go_ret
   exact ⟨rfl, UG b0 b1⟩
  | true =>
   rw [Bool.true_and]
   by_cases hl : r.ttl < 0
   ·rw [decide_eq_false (by omega), Bool.false_and]
    have hl0 : decide (0 ≤ r.ttl) = false := decide_eq_false (by omega)
    go_enter Tryz.func23, Tryz.ntmps23
    go_wp2_with fail
    generalize w.alloc (.cells #[.slice na r.name.length nc, .int .i64 r.type, .int .i64 r.ttl, .int .i64 r.addr, .slice ta r.to.length tc, .slice xa r.text.length xc, .slice ia r.nums.length ic] 39) = W at *
    refine (UB SN _ _ (UB H0).name).mono ?_
    rintro e w1 ⟨rfl, b1⟩
    have K1 := UC (UE b1 (UB K0))
    obtain ⟨d0, d1, d2, d3, d4, d5, d6⟩ := UJ (UB K1)
    go_wp2_with fail
    refine (UB ST _).mono ?_
    rintro e w2 ⟨rfl, rfl⟩
    go_wp2_with fail
    go_ret
    exact ⟨rfl, UG b0 b1⟩
   by_cases hh : 100000 < r.ttl
   ·rw [decide_eq_false (by omega), Bool.false_and]
    have hl0 : decide (r.ttl ≤ 100000) = false := decide_eq_false (by omega)
    go_enter Tryz.func23, Tryz.ntmps23
    go_wp2_with fail
    generalize w.alloc (.cells #[.slice na r.name.length nc, .int .i64 r.type, .int .i64 r.ttl, .int .i64 r.addr, .slice ta r.to.length tc, .slice xa r.text.length xc, .slice ia r.nums.length ic] 39) = W at *
    refine (UB SN _ _ (UB H0).name).mono ?_
    rintro e w1 ⟨rfl, b1⟩
    have K1 := UC (UE b1 (UB K0))
    obtain ⟨d0, d1, d2, d3, d4, d5, d6⟩ := UJ (UB K1)
    go_wp2_with fail
    refine (UB ST _).mono ?_
    rintro e w2 ⟨rfl, rfl⟩
    go_wp2_with fail
    go_ret
    exact ⟨rfl, UG b0 b1⟩
   rw [decide_eq_true (by omega), Bool.true_and]
   have hl0 : decide (r.ttl ≤ 100000) = true := decide_eq_true (by omega)
   go_enter Tryz.func23, Tryz.ntmps23
   go_wp2_with fail
   generalize w.alloc (.cells #[.slice na r.name.length nc, .int .i64 r.type, .int .i64 r.ttl, .int .i64 r.addr, .slice ta r.to.length tc, .slice xa r.text.length xc, .slice ia r.nums.length ic] 39) = W at *
   refine (UB SN _ _ (UB H0).name).mono ?_
   rintro e w1 ⟨rfl, b1⟩
   have K1 := UC (UE b1 (UB K0))
   have H1 := UC ((UB H0).below b1)
   obtain ⟨d0, d1, d2, d3, d4, d5, d6⟩ := UJ (UB K1)
   go_wp2_with fail
   refine (UB ST _).mono ?_
   rintro e w2 ⟨rfl, rfl⟩
   go_wp2_with fail
   refine (UB LD _ _ _ _ _ (UB H1) trivial).mono ?_
   rintro e w3 ⟨rfl, b3⟩
   go_wp2_with fail
   go_ret
   exact ⟨rfl, UG (UG b0 b1) b3⟩
end Go.Proofs.YtfneahdnpmamkaaGreat
