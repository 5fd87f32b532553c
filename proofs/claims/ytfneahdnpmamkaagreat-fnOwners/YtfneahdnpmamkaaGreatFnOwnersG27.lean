/-
  Contract of the specification's l5bent: a zone that may be bent. Plain facts: J9 of 32 bits. No program is named here.
-/
import Derived.Test.YtfneahdnpmamkaaGreatFnOwnersG25
import Derived.Test.YtfneahdnpmamkaaGreatFnOwnersG26
import Derived.Laws.BitsAllLaws
namespace Go.Proofs.YtfneahdnpmamkaaGreat
open Go.RowKit
set_option linter.unusedVariables false

theorem Ns {rs : List Rec} (h : ∀ k, k < rs.length → (rs.getD k recZ).name.length ≤ 1048576) : ∀ k, k < (rs.drop 1).length → ((rs.drop 1).getD k recZ).name.length ≤ 1048576 := fun k hk => by
 rw [List.length_drop] at hk
 have := h (1 + k) (by omega)
 rw [List.getD_eq_getElem?_getD] at this ⊢
 rwa [List.getElem?_drop]
theorem Vk {rs : List Rec} {y : Int} (h : ∀ k, k < rs.length → (rs.getD k recZ).name.length ≤ 1048576) : ∀ k, k < (rs.set 0 (ttlR (rs.getD 0 recZ) y)).length → ((rs.set 0 (ttlR (rs.getD 0 recZ) y)).getD k recZ).name.length ≤ 1048576 := fun k hk => by
 rw [List.length_set] at hk
 by_cases e : k = 0
 ·subst e
  rw [List.getD_eq_getElem?_getD, List.getElem?_set_self hk, Option.getD_some]
  exact h 0 hk
 ·rw [List.getD_eq_getElem?_getD, List.getElem?_set_ne (Ne.symm e), ← List.getD_eq_getElem?_getD]
  exact h k hk
theorem So {w : World} {q cap : Nat} {rs : List Rec} (h : Cl w (.slice (some ⟨q, 0, none⟩) rs.length cap) rs) (hp : 0 < rs.length) : (cap = 1 → Cl w (.slice (some ⟨q, 0, none⟩) (rs.length - 1) 0) (rs.drop 1)) ∧ (cap ≠ 1 → Cl w (.slice (some ⟨q, 7, none⟩) (rs.length - 1) (cap - 1)) (rs.drop 1)) := by
 rcases h with ⟨hv, _⟩ | ⟨g, off, cp, hv, hlt, hl, hm, hc⟩
 ·cases hv
 ·simp only [Value.slice.injEq, Option.some.injEq, Addr.mk.injEq] at hv
  obtain ⟨⟨rfl, rfl, _⟩, _, rfl⟩ := hv
  refine ⟨fun e => .inr ⟨q, 0, 0, by rw [List.length_drop], hlt, by rw [List.length_drop]; omega, Nat.zero_le _, fun i hi => absurd hi (by rw [List.length_drop]; omega)⟩, fun _ => .inr ⟨q, 7, cap - 1, by rw [List.length_drop], hlt, by rw [List.length_drop]; omega, by omega, fun i hi => ?_⟩⟩
  rw [List.length_drop] at hi
  obtain ⟨vn, vt, vx, vi, h1, h2⟩ := hc (1 + i) (by omega)
  have e : (rs.drop 1).getD i recZ = rs.getD (1 + i) recZ := by rw [List.getD_eq_getElem?_getD, List.getElem?_drop, ← List.getD_eq_getElem?_getD]
  rw [e]
  exact ⟨vn, vt, vx, vi, by rw [show 7 + i * 7 = 0 + (1 + i) * 7 by omega]; exact h1, h2⟩
structure Df (w : World) (vo vr : Value) (o : List (List Int)) (rs : List Rec) : Prop where
 name : OwnT 0 22 5 w vo o
 recs : Ii 0 w.heap.size w vr rs ∨ ∃ q cap rs0, 0 < rs0.length ∧ Ii 0 w.heap.size w (.slice (some ⟨q, 0, none⟩) rs0.length cap) rs0 ∧ rs = rs0.drop 1 ∧ ((cap = 1 ∧ vr = .slice (some ⟨q, 0, none⟩) (rs0.length - 1) 0) ∨ (cap ≠ 1 ∧ vr = .slice (some ⟨q, 7, none⟩) (rs0.length - 1) (cap - 1)))
section
variable {w w' : World} {vo vr : Value} {o : List (List Int)} {rs : List Rec}
theorem Df.hasZ (h : Df w vo vr o rs) : HasZ w vo vr o rs := by
 refine ⟨h.name.hasL, ?_⟩
 rcases h.recs with h1 | ⟨q, cap, rs0, hp, h1, rfl, ⟨h2, rfl⟩ | ⟨h2, rfl⟩⟩
 ·exact h1.has
 ·exact (So h1.has hp).1 h2
 ·exact (So h1.has hp).2 h2
theorem Df.lift (h : Df w vo vr o rs) (hn : OwnT 0 22 5 w' vo o) (hr : ∀ v l, Ii 0 w.heap.size w v l → Ii 0 w'.heap.size w' v l) : Df w' vo vr o rs := by
 refine ⟨hn, ?_⟩
 rcases h.recs with h1 | ⟨q, cap, rs0, hp, h1, h2⟩
 ·exact .inl (hr _ _ h1)
 ·exact .inr ⟨q, cap, rs0, hp, hr _ _ h1, h2⟩
theorem Df.below (h : Df w vo vr o rs) (hb : Below w.heap.size w w') : Df w' vo vr o rs := h.lift (h.name.below hb) (fun v l h1 => (A6.below Fb h1 hb).wide (Nat.le_refl _) hb.size)
theorem Df.off (h : Df w vo vr o rs) {q : Nat} {t : TypeId} {cc : Array Value} (hk : w.heap[q]? = some (.cells cc t)) (ht : t ∉ tysZ) (hg : w.grownBy w' (some q)) : Df w' vo vr o rs := by
 simp only [List.mem_cons, List.not_mem_nil, or_false, not_or] at ht
 obtain ⟨h1, h2, h3, h4⟩ := ht
 exact h.lift (h.name.off hk h2 h3 hg) (fun v l hr => (A6.off Fb hr hk (by simp only [List.mem_cons, List.not_mem_nil, or_false, not_or]; exact ⟨h2, h3, h4⟩) (.inl h1) hg).wide (Nat.le_refl _) hg.size)
theorem Df.cur {g len cap : Nat} {a : Option Addr} (h : Df w vo vr o rs) (hc : Cur w g a len cap) (hg : w.grownBy w' (some g)) : Df w' vo vr o rs := by
 obtain ⟨i, x, h1, _⟩ := hc
 exact h.off h1 (by decide) hg
end
theorem Zi {B : Nat} {w : World} {v : Value} {rs : List Rec} {y : Int} (h : Ii B w.heap.size w v rs) (hm : 0 < rs.length) :
  ∃ q cap, v = .slice (some ⟨q, 0, none⟩) rs.length cap ∧ B ≤ q ∧ (∃ cur, w.heap[q]? = some (.cells cur 39)) ∧ w.cell? ⟨q, 2, none⟩ = some (.int .i64 (rs.getD 0 recZ).ttl) ∧ w.frozen? ⟨q, 2, none⟩ = false ∧ Ii B w.heap.size (w.setCell ⟨q, 2, none⟩ (.int .i64 y)) v (rs.set 0 (ttlR (rs.getD 0 recZ) y)) := by
 obtain ⟨xs, ho, hE, hx⟩ := h
 obtain ⟨vs, hcs, vn, vt, vx, vi, rfl, hR⟩ := hx 0 hm
 rw [Nat.zero_mul] at hcs
 obtain ⟨q, cap, cur, rfl, hB, hlt, hg, hn, hmx, hfz, hset⟩ := Km ho (k := 2) (by omega)
 have hl : xs.length = rs.length * 7 := ho.1
 have hgr := Ab w ⟨q, 2, none⟩ (.int .i64 y)
 have off : ∀ {vs : List Value} {r : Rec}, Qm w vs r → Qm (w.setCell ⟨q, 2, none⟩ (.int .i64 y)) vs r := fun hO => Fb.off hO hg (by decide) hgr
 refine ⟨q, cap, rfl, hB, ⟨cur, hg⟩, ?_, hfz, xs.set 2 (.int .i64 y), by rw [List.length_set]; exact hset _, hE, fun i hi => ?_⟩
 ·rw [World.ownsRow.cellAt ho 2 (by omega)]
  have := hcs 2 _ rfl
  rwa [Nat.zero_add] at this
 ·rw [List.length_set] at hi
  by_cases e : i = 0
  ·subst e
   rw [List.getD_eq_getElem?_getD, List.getElem?_set_self hi, Option.getD_some]
   obtain ⟨vn', vt', vx', vi', e2, hR'⟩ := off (r := rs.getD 0 recZ) ⟨vn, vt, vx, vi, rfl, hR⟩
   simp only [Ah, List.cons.injEq] at e2
   obtain ⟨rfl, _, _, _, rfl, rfl, rfl, _⟩ := e2
   refine ⟨_, Kn (m := 0) (i := 0) hi hl (by rw [Nat.zero_mul]; exact hcs), vn, vt, vx, vi, rfl, hR'.name, hR'.to, hR'.text, hR'.nums⟩
  ·obtain ⟨us, q1, q2⟩ := hx i hi
   refine ⟨us, ?_, ?_⟩
   ·intro j u hj
    have hj7 : j < 7 := by have := (List.getElem?_eq_some_iff.1 hj).1; rw [Fb.cells q2] at this; exact this
    rw [List.getElem?_set_ne (by omega)]
    exact q1 j u hj
   ·rw [List.getD_eq_getElem?_getD, List.getElem?_set_ne (Ne.symm e), ← List.getD_eq_getElem?_getD]
    exact off q2
theorem Cm.mono {B B' : Nat} {w : World} {vo vr : Value} {o : List (List Int)} {rs : List Rec} (h : Cm B w vo vr o rs) (hB : B' ≤ B) : Cm B' w vo vr o rs := ⟨h.name, A6.wide h.recs hB (Nat.le_refl _)⟩
theorem Tv {rs : List Rec} {r : Rec} (h : ∀ k, k < rs.length → (rs.getD k recZ).name.length ≤ 1048576) (hr : r.name.length ≤ 1048576) : ∀ k, k < (rs ++ [r]).length → ((rs ++ [r]).getD k recZ).name.length ≤ 1048576 := fun k hk => by
 rw [List.length_append] at hk
 simp only [List.length_cons, List.length_nil] at hk
 by_cases hlt : k < rs.length
 ·rw [List.getD_eq_getElem?_getD, List.getElem?_append_left hlt, ← List.getD_eq_getElem?_getD]; exact h k hlt
 ·obtain rfl : k = rs.length := by omega
  rw [List.getD_eq_getElem?_getD]
  simpa using hr
theorem Y8 {B n : Nat} {w w' : World} {v vo : Value} {o : List (List Int)} {xs : List Value} (h : w.ownsRow B 39 7 v n xs) (ho : OwnT 0 22 5 w vo o) (hg : w.grownBy w' v.ownBlock) : OwnT 0 22 5 w' vo o := by
 rcases h.2 with ⟨rfl, _⟩ | ⟨g, cap, cur, rfl, _, hk, _⟩
 ·exact ho.below (Ch hg)
 ·exact ho.off hk (by decide) (by decide) hg
set_option maxHeartbeats 4000000 in
set_option maxRecDepth 100000 in
theorem Tp {g : Nat} {a : Option Addr} {len cap : Nat} {w : World} (hc : Cur w g a len cap) (hL : Code w g a len) (hm : len ≤ maxLen) :
  Calls Tryz.prog 11 #[.pointer (some ⟨g, 0, none⟩)] w fun e w' => ∃ vo vr o rs, e = .returned (.agg #[vo, vr]) ∧ Df w' vo vr o rs ∧ (∀ k, k < rs.length → (rs.getD k recZ).name.length ≤ 1048576) ∧ Cur w' g a len cap ∧ w.grownBy w' (some g) := by
 have hg := hc.lt
 have HM := UC hm
 have X0 := CurX.start hc hL
 have ba := UI (w := w) (.cells #[.slice none 0 0, .slice none 0 0] 28)
 have KB := UC (heap_alloc_new w (.cells #[.slice none 0 0, .slice none 0 0] 28))
 have X := UC (X0.below ba)
 have zb := VC (UB KB)
 clear hc hL hm X0 ba
 go_enter Tryz.func11, Tryz.ntmps11
 go_wp2_with fail
 generalize w.alloc (.cells #[.slice none 0 0, .slice none 0 0] 28) = W at *
 refine (Tn (UB X).cur (UB X).code (UB HM)).mono ?_
 rintro e w1 ⟨vo, vr, rs, rfl, hzk, zd, c1, g1⟩
 obtain ⟨za, zc, rfl, _⟩ := zd.hasZ.name.form
 obtain ⟨ya, yc, rfl, hyc⟩ := zd.hasZ.recs.form
 have HYC := UC hyc
 clear hyc
 have z1 := g1.size
 have ZD := UC (Cm.mono (B' := w.heap.size) zd (by omega))
 have HZK := UC hzk
 clear zd hzk
 replace KB := UC (Aa g1 (UB KB) (by simp; omega))
 replace X := UC ((UB X).step c1 g1)
 have zg1 := g1.size
 clear c1 g1
 have ba := UI (w := w1) (.cells #[.slice za Aj.length zc, .slice ya rs.length yc] 28)
 have KR := UC (heap_alloc_new w1 (.cells #[.slice za Aj.length zc, .slice ya rs.length yc] 28))
 replace X := UC ((UB X).below ba)
 replace KB := UC (UE ba (UB KB))
 replace ZD := UC ((UB ZD).below ba)
 have zr := VC (UB KR)
 clear ba
 go_wp2_with fail
 generalize w1.alloc (.cells #[.slice za Aj.length zc, .slice ya rs.length yc] 28) = W2 at *
 refine (Eg 9 (UB X).cur (UB X).code (UB HM) (by omega) (by omega)).mono ?_
 rintro e w3 ⟨bent, rfl, c3, g3⟩
 replace KB := UC (Aa g3 (UB KB) (by simp; omega))
 replace KR := UC (Aa g3 (UB KR) (by simp; omega))
 replace ZD := UC ((UB ZD).cur (UB X).cur g3)
 replace X := UC ((UB X).step c3 g3)
 have zg3 := g3.size
 clear c3 g3
 cases bent
 ·-- as it was drawn
  obtain ⟨d0, d1⟩ := UM (UB KR)
  obtain ⟨p0, p1⟩ := UM (UB KB)
  obtain ⟨q0, q1⟩ := Am (UB KB)
  go_wp2_with fail
  clear d0 d1 p0 p1 q0 q1
  have gf := Ad (Ab w3 ⟨w.heap.size, 0, none⟩ (.slice za Aj.length zc)) (Ab _ ⟨w.heap.size, 1, none⟩ (.slice ya rs.length yc))
  have kf := UV (UV (UB KB) 0 (.slice za Aj.length zc)) 1 (.slice ya rs.length yc)
  have XF := (UB X).row gf (fun j e => by cases e; exact Nat.le_refl _)
  have DF := (UB ZD).off (UB KB) (by decide) gf
  have HF : Df _ _ _ _ _ := ⟨DF.name, .inl (A6.wide DF.recs (Nat.zero_le _) (Nat.le_refl _))⟩
  refine bodyPost_ret (results_cell_row rfl _ _ w.heap.size 28 #[.slice za Aj.length zc, .slice ya rs.length yc] (0, 0) _ rfl kf Tryz.underlying28 rfl (by kernel_rfl)) rfl ?_
  exact ⟨_, _, Aj, rs, rfl, HF, Cv (UB HZK), XF.cur, XF.grown⟩
 ·-- bent
  go_wp2_with fail
  refine (A9 4 (UB X).cur (UB X).code (UB HM) (by omega) (by omega)).mono ?_
  rintro e w4 ⟨y, rfl, hy0, hy1, c4, g4⟩
  replace KB := UC (Aa g4 (UB KB) (by simp; omega))
  replace KR := UC (Aa g4 (UB KR) (by simp; omega))
  replace ZD := UC ((UB ZD).cur (UB X).cur g4)
  replace X := UC ((UB X).step c4 g4)
  have zg4 := g4.size
  clear c4 g4
  by_cases e0 : y = 0
  ·skip
   subst e0
   go_wp2_with fail
   refine (I9 (UB X).cur (UB X).code (UB HM)).mono ?_
   rintro e w5 ⟨v5, m, rfl, hm7, hm16, om, c5, g5⟩
   obtain ⟨ma, mc, rfl, _⟩ := om.hasL.form
   have N := UC (om.mono (Nat.zero_le _))
   clear om hm7 hm16
   replace KB := UC (Aa g5 (UB KB) (by simp; omega))
   replace KR := UC (Aa g5 (UB KR) (by simp; omega))
   replace ZD := UC ((UB ZD).cur (UB X).cur g5)
   replace X := UC ((UB X).step c5 g5)
   have zg5 := g5.size
   clear c5 g5
   obtain ⟨d0, d1⟩ := UM (UB KR)
   obtain ⟨f0, f1⟩ := Am (UB KR)
   go_upto_region 11 with fail
   clear d0 d1 f0 f1
   have gs := Ab w5 ⟨w1.heap.size, 0, none⟩ (.slice ma m.length mc)
   replace X := UC ((UB X).row gs (fun j e => by cases e; show w.heap.size ≤ w1.heap.size; omega))
   replace KB := UC (Aa gs (UB KB) (by simp; omega))
   replace ZD := UC ((UB ZD).off (UB KR) (by decide) gs)
   replace N := UC ((UB N).off (UB KR) (by decide) (by decide) gs)
   have KR2 : Hid ((w5.setCell ⟨w1.heap.size, 0, none⟩ (.slice ma m.length mc)).heap[w1.heap.size]? = some (.cells #[.slice ma m.length mc, .slice ya rs.length yc] 28)) := UC (UV (UB KR) 0 (.slice ma m.length mc))
   clear gs KR
   have KR := KR2
   clear KR2
   generalize w5.setCell ⟨w1.heap.size, 0, none⟩ (.slice ma m.length mc) = w6 at *
   obtain ⟨d0, d1⟩ := UM (UB KR)
   obtain ⟨p0, p1⟩ := UM (UB KB)
   obtain ⟨q0, q1⟩ := Am (UB KB)
   go_wp2_with fail
   clear d0 d1 p0 p1 q0 q1
   have gf := Ad (Ab w6 ⟨w.heap.size, 0, none⟩ (.slice ma m.length mc)) (Ab _ ⟨w.heap.size, 1, none⟩ (.slice ya rs.length yc))
   have kf := UV (UV (UB KB) 0 (.slice ma m.length mc)) 1 (.slice ya rs.length yc)
   have XF := (UB X).row gf (fun j e => by cases e; exact Nat.le_refl _)
   have DF : Cm w.heap.size _ _ _ m rs := ⟨(UB N).off (UB KB) (by decide) (by decide) gf, ((UB ZD).off (UB KB) (by decide) gf).recs⟩
   have HF : Df _ _ _ _ _ := ⟨DF.name, .inl (A6.wide DF.recs (Nat.zero_le _) (Nat.le_refl _))⟩
   refine bodyPost_ret (results_cell_row rfl _ _ w.heap.size 28 #[.slice ma m.length mc, .slice ya rs.length yc] (0, 0) _ rfl kf Tryz.underlying28 rfl (by kernel_rfl)) rfl ?_
   exact ⟨_, _, m, rs, rfl, HF, Cv (UB HZK), XF.cur, XF.grown⟩
  by_cases e1 : y = 1
  ·skip
   subst e1
   go_upto_region 8 with fail
   have h60 := (Bs (UB HZK)).2.2
   have bd := UX (w := w4)
   replace X := UC ((UB X).below bd)
   replace KB := UC (UE bd (UB KB))
   replace KR := UC (UE bd (UB KR))
   replace ZD := UC ((UB ZD).below bd)
   have zd4 := bd.size
   clear bd
   refine Hx [0, 1, 2, 3, 4, 5, 6, 7] (by kernel_rfl) ⟨by kernel_rfl, by kernel_rfl, by kernel_rfl, by kernel_rfl⟩ 8 [(1, fun w' => w'.cell? ⟨w1.heap.size, 1, none⟩ = some (.slice ya rs.length yc))] (fun hA => ?_)
   replace hA := UC hA
   go_simp
   generalize hWD : w4.drew = WD at *
   clear hWD
   repeat ((first | (refine VN ?_ (UB hA) rfl rfl rfl (by rfl) (fun _ _ _ h => h) ?_ ?_; rotate_left; · (intro w; go_simp <;> with_reducible rfl)) | refine VM (UB hA) rfl rfl (by rfl) (fun _ _ _ h => h) ?_); go_simp)
   refine Hj ?_ (UB hA) rfl rfl rfl (by rfl) (fun _ _ _ h => h) (.head _) (UM (UB KR)).2 ?_ ?_; rotate_left; (· (intro w hSw; (try dsimp only at hSw); go_simp <;> with_reducible rfl)); go_simp
   repeat ((first | (refine VN ?_ (UB hA) rfl rfl rfl (by rfl) (fun _ _ _ h => h) ?_ ?_; rotate_left; · (intro w; go_simp <;> with_reducible rfl)) | refine VM (UB hA) rfl rfl (by rfl) (fun _ _ _ h => h) ?_); go_simp)
   refine runC (UB hA) rfl rfl (by kernel_rfl) (by kernel_rfl) (fun K hK => ?_)
   have HK := UC hK
   clear hK
   go_simp
   refine (Rp (UB X).cur (UB X).code (UB HM)).mono ?_
   rintro e u1 ⟨vn, vt, vx, vi, r, rfl, dq, _, DR, _, c1, g1⟩
   have hrn : r.name.length ≤ 1048576 := Nat.le_trans dq.1.2.1.1 (by decide)
   clear dq
   obtain ⟨n1, n2, rfl, _⟩ := DR.hasR.name.form
   obtain ⟨t1, t2, rfl, _⟩ := DR.hasR.to.form
   obtain ⟨x1, x2, rfl, _⟩ := DR.hasR.text.form
   obtain ⟨i1, i2, rfl, _⟩ := DR.hasR.nums.form
   replace KB := UC (Aa g1 (UB KB) (by simp; omega))
   replace KR := UC (Aa g1 (UB KR) (by simp; omega))
   replace ZD := UC ((UB ZD).cur (UB X).cur g1)
   replace X := UC ((UB X).step c1 g1)
   have zg1 := g1.size
   clear c1 g1
   have DD := UC DR
   clear DR
   refine (UB HK).out _ _ (A7 (UM (UB KR)).2 VL) ?_
   clear HK K
   go_simp
   repeat ((first | (refine VN ?_ (UB hA) rfl rfl rfl (by rfl) (fun _ _ _ h => h) ?_ ?_; rotate_left; · (intro w; go_simp <;> with_reducible rfl)) | refine VM (UB hA) rfl rfl (by rfl) (fun _ _ _ h => h) ?_); go_simp)
   refine runC (UB hA) rfl rfl (by kernel_rfl) (by kernel_rfl) (fun K hK => ?_)
   have HK := UC hK
   clear hK
   go_simp
   have KG := UC (heap_alloc_new u1 (.cells #[.slice n1 r.name.length n2, .int .i64 r.type, .int .i64 r.ttl, .int .i64 r.addr, .slice t1 r.to.length t2, .slice x1 r.text.length x2, .slice i1 r.nums.length i2] 39))
   have bg := UI (w := u1) (.cells #[.slice n1 r.name.length n2, .int .i64 r.type, .int .i64 r.ttl, .int .i64 r.addr, .slice t1 r.to.length t2, .slice x1 r.text.length x2, .slice i1 r.nums.length i2] 39)
   replace X := UC ((UB X).below bg)
   replace KB := UC (UE bg (UB KB))
   replace KR := UC (UE bg (UB KR))
   replace ZD := UC ((UB ZD).below bg)
   replace DD := UC ((UB DD).below bg)
   have zg := bg.size
   clear bg
   refine (UB HK).out _ _ (A7 (UM (UB KR)).2 VL) ?_
   clear HK K
   go_simp
   obtain ⟨cs0, hx0⟩ := (UB ZD).recs.own
   refine runC (UB hA) rfl rfl (by kernel_rfl) (by kernel_rfl) (fun K hK => ?_)
   have HK := UC hK
   clear hK
   refine Sj _ _ 26 39 rfl Tryz.underlying26 _ 7 120 (by omega) (by omega) Ca rfl w.heap.size (.slice ya rs.length yc) rs.length rfl u1.heap.size [.slice n1 r.name.length n2, .int .i64 r.type, .int .i64 r.ttl, .int .i64 r.addr, .slice t1 r.to.length t2, .slice x1 r.text.length x2, .slice i1 r.nums.length i2] rfl ⟨cs0, hx0⟩ (UB KG) rfl (by simp [Value.oneCell']) (by omega) (by omega) ?_
   intro v8 u2 h8 g8 hw8
   have DM8 := A6.snoc Fb (UB ZD).recs (vs := [.slice n1 r.name.length n2, .int .i64 r.type, .int .i64 r.ttl, .int .i64 r.addr, .slice t1 r.to.length t2, .slice x1 r.text.length x2, .slice i1 r.nums.length i2]) (x := r) ⟨_, _, _, _, rfl, UB DD⟩ (by decide) g8 h8
   have X8 := (UB X).row g8 (fun j e => by have := (World.ownsRow.lt hx0 j e).1; omega)
   have KR8 := UC (A6.keep (UB ZD).recs g8 (UB KR) (by decide))
   have KB8 := A6.keep (UB ZD).recs g8 (UB KB) (by decide)
   have N8 := Y8 hx0 (UB ZD).name g8
   obtain ⟨rs1, hrs1⟩ : ∃ x, x = rs ++ [r] := ⟨_, rfl⟩
   have hnm : ∀ k, k < rs1.length → (rs1.getD k recZ).name.length ≤ 1048576 := by rw [hrs1]; exact Tv (Cv (UB HZK)) hrn
   rw [← hrs1] at DM8
   obtain ⟨q1, q2, hv, _⟩ := A6.form DM8
   subst hv
   replace ZD := UC (show Cm w.heap.size u2 _ _ Aj rs1 from ⟨N8, DM8⟩)
   replace X := UC X8
   replace KB := UC KB8
   obtain ⟨d0, d1⟩ := UM (UB KR8)
   obtain ⟨f0, f1⟩ := Am (UB KR8)
   clear hx0 h8 g8 hw8 DM8 X8 KB8 N8 KG DD KR hrs1 hrn
   refine (UB HK).out _ _ (VB (by kernel_rfl) VL) ?_
   clear HK K
   go_simp
   repeat ((first | (refine VN ?_ (UB hA) rfl rfl rfl (by rfl) (fun _ _ _ h => h) ?_ ?_; rotate_left; · (intro w; go_simp <;> with_reducible rfl)) | refine VM (UB hA) rfl rfl (by rfl) (fun _ _ _ h => h) ?_); go_simp)
   refine runC (UB hA) rfl rfl (by kernel_rfl) (by kernel_rfl) (fun K hK => ?_)
   have HK := UC hK
   clear hK
   go_simp
   refine (UB HK).out _ _ (VB (by kernel_rfl) VL) ?_
   clear HK K
   go_simp
   refine Lt (UB hA) rfl ?_
   clear hA
   clear d0 d1 f0 f1
   have KR := KR8
   clear KR8
   have gs := Ab u2 ⟨w1.heap.size, 1, none⟩ (.slice q1 rs1.length q2)
   replace X := UC ((UB X).row gs (fun j e => by cases e; show w.heap.size ≤ w1.heap.size; omega))
   replace KB := UC (Aa gs (UB KB) (by simp; omega))
   replace ZD := UC ((UB ZD).off (UB KR) (by decide) gs)
   have KR2 : Hid ((u2.setCell ⟨w1.heap.size, 1, none⟩ (.slice q1 rs1.length q2)).heap[w1.heap.size]? = some (.cells #[.slice za Aj.length zc, .slice q1 rs1.length q2] 28)) := UC (UV (UB KR) 1 (.slice q1 rs1.length q2))
   clear gs KR
   have KR := KR2
   clear KR2
   generalize u2.setCell ⟨w1.heap.size, 1, none⟩ (.slice q1 rs1.length q2) = u3 at *
   obtain ⟨d0, d1⟩ := UM (UB KR)
   obtain ⟨p0, p1⟩ := UM (UB KB)
   obtain ⟨q0, q1⟩ := Am (UB KB)
   go_wp2_with fail
   clear d0 d1 p0 p1 q0 q1
   have gf := Ad (Ab u3 ⟨w.heap.size, 0, none⟩ (.slice za Aj.length zc)) (Ab _ ⟨w.heap.size, 1, none⟩ (.slice q1 rs1.length q2))
   have kf := UV (UV (UB KB) 0 (.slice za Aj.length zc)) 1 (.slice q1 rs1.length q2)
   have XF := (UB X).row gf (fun j e => by cases e; exact Nat.le_refl _)
   have DF := (UB ZD).off (UB KB) (by decide) gf
   have HF : Df _ _ _ _ _ := ⟨DF.name, .inl (A6.wide DF.recs (Nat.zero_le _) (Nat.le_refl _))⟩
   refine bodyPost_ret (results_cell_row rfl _ _ w.heap.size 28 #[.slice za Aj.length zc, .slice q1 rs1.length q2] (0, 0) _ rfl kf Tryz.underlying28 rfl (by kernel_rfl)) rfl ?_
   exact ⟨_, _, Aj, rs1, rfl, HF, hnm, XF.cur, XF.grown⟩
  by_cases e2 : y = 2
  ·skip
   subst e2
   have hpos := Pm (UB HZK)
   have hpos' : (1 : Int) ≤ rs.length := by omega
   obtain ⟨q, vs, hq, _⟩ := A6.here Fb (UB ZD).recs hpos
   subst hq
   by_cases hc1 : yc = 1
   ·subst hc1
    obtain ⟨d0, d1⟩ := UM (UB KR)
    obtain ⟨f0, f1⟩ := Am (UB KR)
    go_upto_region 11 with fail
    clear d0 d1 f0 f1
    have gs := Ab w4 ⟨w1.heap.size, 1, none⟩ (.slice (some ⟨q, 0, none⟩) (rs.length - 1) (0))
    replace X := UC ((UB X).row gs (fun j e => by cases e; show w.heap.size ≤ w1.heap.size; omega))
    replace KB := UC (Aa gs (UB KB) (by simp; omega))
    replace ZD := UC ((UB ZD).off (UB KR) (by decide) gs)
    have KR2 : Hid ((w4.setCell ⟨w1.heap.size, 1, none⟩ (.slice (some ⟨q, 0, none⟩) (rs.length - 1) (0))).heap[w1.heap.size]? = some (.cells #[.slice za Aj.length zc, .slice (some ⟨q, 0, none⟩) (rs.length - 1) (0)] 28)) := UC (UV (UB KR) 1 (.slice (some ⟨q, 0, none⟩) (rs.length - 1) (0)))
    clear gs KR
    have KR := KR2
    clear KR2
    generalize w4.setCell ⟨w1.heap.size, 1, none⟩ (.slice (some ⟨q, 0, none⟩) (rs.length - 1) (0)) = w6 at *
    obtain ⟨d0, d1⟩ := UM (UB KR)
    obtain ⟨p0, p1⟩ := UM (UB KB)
    obtain ⟨q0, q1⟩ := Am (UB KB)
    go_wp2_with fail
    clear d0 d1 p0 p1 q0 q1
    have gf := Ad (Ab w6 ⟨w.heap.size, 0, none⟩ (.slice za Aj.length zc)) (Ab _ ⟨w.heap.size, 1, none⟩ (.slice (some ⟨q, 0, none⟩) (rs.length - 1) (0)))
    have kf := UV (UV (UB KB) 0 (.slice za Aj.length zc)) 1 (.slice (some ⟨q, 0, none⟩) (rs.length - 1) (0))
    have XF := (UB X).row gf (fun j e => by cases e; exact Nat.le_refl _)
    have DF := (UB ZD).off (UB KB) (by decide) gf
    have HF : Df _ _ (.slice (some ⟨q, 0, none⟩) (rs.length - 1) (0)) Aj (rs.drop 1) := ⟨DF.name, .inr ⟨q, _, rs, hpos, A6.wide DF.recs (Nat.zero_le _) (Nat.le_refl _), rfl, .inl ⟨rfl, rfl⟩⟩⟩
    refine bodyPost_ret (results_cell_row rfl _ _ w.heap.size 28 #[.slice za Aj.length zc, .slice (some ⟨q, 0, none⟩) (rs.length - 1) (0)] (0, 0) _ rfl kf Tryz.underlying28 rfl (by kernel_rfl)) rfl ?_
    exact ⟨_, _, Aj, rs.drop 1, rfl, HF, Ns (Cv (UB HZK)), XF.cur, XF.grown⟩
   ·have hyc := UB HYC
    have hc2 : 2 ≤ yc := by omega
    have HC1 := UC hc1
    clear hc1 hyc
    obtain ⟨d0, d1⟩ := UM (UB KR)
    obtain ⟨f0, f1⟩ := Am (UB KR)
    go_upto_region 11 with fail
    clear d0 d1 f0 f1
    have gs := Ab w4 ⟨w1.heap.size, 1, none⟩ (.slice (some ⟨q, 7, none⟩) (rs.length - 1) (yc - 1))
    replace X := UC ((UB X).row gs (fun j e => by cases e; show w.heap.size ≤ w1.heap.size; omega))
    replace KB := UC (Aa gs (UB KB) (by simp; omega))
    replace ZD := UC ((UB ZD).off (UB KR) (by decide) gs)
    have KR2 : Hid ((w4.setCell ⟨w1.heap.size, 1, none⟩ (.slice (some ⟨q, 7, none⟩) (rs.length - 1) (yc - 1))).heap[w1.heap.size]? = some (.cells #[.slice za Aj.length zc, .slice (some ⟨q, 7, none⟩) (rs.length - 1) (yc - 1)] 28)) := UC (UV (UB KR) 1 (.slice (some ⟨q, 7, none⟩) (rs.length - 1) (yc - 1)))
    clear gs KR
    have KR := KR2
    clear KR2
    generalize w4.setCell ⟨w1.heap.size, 1, none⟩ (.slice (some ⟨q, 7, none⟩) (rs.length - 1) (yc - 1)) = w6 at *
    obtain ⟨d0, d1⟩ := UM (UB KR)
    obtain ⟨p0, p1⟩ := UM (UB KB)
    obtain ⟨q0, q1⟩ := Am (UB KB)
    go_wp2_with fail
    clear d0 d1 p0 p1 q0 q1
    have gf := Ad (Ab w6 ⟨w.heap.size, 0, none⟩ (.slice za Aj.length zc)) (Ab _ ⟨w.heap.size, 1, none⟩ (.slice (some ⟨q, 7, none⟩) (rs.length - 1) (yc - 1)))
    have kf := UV (UV (UB KB) 0 (.slice za Aj.length zc)) 1 (.slice (some ⟨q, 7, none⟩) (rs.length - 1) (yc - 1))
    have XF := (UB X).row gf (fun j e => by cases e; exact Nat.le_refl _)
    have DF := (UB ZD).off (UB KB) (by decide) gf
    have HF : Df _ _ (.slice (some ⟨q, 7, none⟩) (rs.length - 1) (yc - 1)) Aj (rs.drop 1) := ⟨DF.name, .inr ⟨q, _, rs, hpos, A6.wide DF.recs (Nat.zero_le _) (Nat.le_refl _), rfl, .inr ⟨UB HC1, rfl⟩⟩⟩
    refine bodyPost_ret (results_cell_row rfl _ _ w.heap.size 28 #[.slice za Aj.length zc, .slice (some ⟨q, 7, none⟩) (rs.length - 1) (yc - 1)] (0, 0) _ rfl kf Tryz.underlying28 rfl (by kernel_rfl)) rfl ?_
    exact ⟨_, _, Aj, rs.drop 1, rfl, HF, Ns (Cv (UB HZK)), XF.cur, XF.grown⟩
  have e3 : y = 3 := by omega
  subst e3
  have hpos := Pm (UB HZK)
  have hpos' : (0 : Int) < rs.length := by omega
  obtain ⟨q, cp, hv, hBq, hqk, hqc, hqf, hqr⟩ := Zi (y := -1) (UB ZD).recs hpos
  simp only [Value.slice.injEq] at hv
  obtain ⟨rfl, _, rfl⟩ := hv
  have HQR := UC hqr
  have KRk := UC (A6.keep (w' := w4.setCell ⟨q, 2, none⟩ (.int .i64 (-1))) (UB ZD).recs (Ab _ ⟨q, 2, none⟩ _) (UB KR) (by decide))
  have KBk := UC (A6.keep (w' := w4.setCell ⟨q, 2, none⟩ (.int .i64 (-1))) (UB ZD).recs (Ab _ ⟨q, 2, none⟩ _) (UB KB) (by decide))
  clear hqr
  obtain ⟨d0, d1⟩ := UM (UB KR)
  go_upto_region 11 with fail
  clear d0 d1
  have gs := Ab w4 ⟨q, 2, none⟩ (.int .i64 (-1))
  have NM := (UB ZD).name
  obtain ⟨cur, hk⟩ := hqk
  have NM2 := NM.off hk (by decide) (by decide) gs
  have e9 : (w4.setCell ⟨q, 2, none⟩ (.int .i64 (-1))).heap.size = w4.heap.size := World.size_setCell _ _ _
  have ZQ : Ii w.heap.size (w4.setCell ⟨q, 2, none⟩ (.int .i64 (-1))).heap.size _ _ _ := e9.symm ▸ UB HQR
  replace ZD := UC (Cm.mk NM2 ZQ)
  clear NM2 ZQ e9
  replace X := UC ((UB X).row gs (fun j e => by cases e; exact hBq))
  clear KR KB gs NM hk hqc hqf HQR
  have KR := KRk
  have KB := KBk
  clear KRk KBk
  have hsl : (rs.set 0 (ttlR (rs.getD 0 recZ) (-1))).length = rs.length := List.length_set
  have hnm := Vk (y := -1) (Cv (UB HZK))
  generalize rs.set 0 (ttlR (rs.getD 0 recZ) (-1)) = rs1 at *
  rw [← hsl] at KR ZD
  rw [← hsl]
  clear hsl
  generalize w4.setCell ⟨q, 2, none⟩ (.int .i64 (-1)) = w6 at *
  obtain ⟨d0, d1⟩ := UM (UB KR)
  obtain ⟨p0, p1⟩ := UM (UB KB)
  obtain ⟨q0, q1⟩ := Am (UB KB)
  go_wp2_with fail
  clear d0 d1 p0 p1 q0 q1
  have gf := Ad (Ab w6 ⟨w.heap.size, 0, none⟩ (.slice za Aj.length zc)) (Ab _ ⟨w.heap.size, 1, none⟩ (.slice (some ⟨q, 0, none⟩) rs1.length yc))
  have kf := UV (UV (UB KB) 0 (.slice za Aj.length zc)) 1 (.slice (some ⟨q, 0, none⟩) rs1.length yc)
  have XF := (UB X).row gf (fun j e => by cases e; exact Nat.le_refl _)
  have DF := (UB ZD).off (UB KB) (by decide) gf
  have HF : Df _ _ _ _ _ := ⟨DF.name, .inl (A6.wide DF.recs (Nat.zero_le _) (Nat.le_refl _))⟩
  refine bodyPost_ret (results_cell_row rfl _ _ w.heap.size 28 #[.slice za Aj.length zc, .slice (some ⟨q, 0, none⟩) rs1.length yc] (0, 0) _ rfl kf Tryz.underlying28 rfl (by kernel_rfl)) rfl ?_
  exact ⟨_, _, Aj, rs1, rfl, HF, hnm, XF.cur, XF.grown⟩
def wv (x : BitVec 32) : Int := (x.toNat : Int)
theorem Gu (n : Nat) : IntKind.u32.wrap (n : Int) = wv (BitVec.ofNat 32 n) := by
 simp [wv, IntKind.wrap, IntKind.bits, IntKind.signed]
theorem Ql (x : BitVec 32) : wv x = (x.toNat : Int) := rfl
theorem wv_lt (x : BitVec 32) : 0 ≤ wv x ∧ wv x < 4294967296 := by have := x.isLt; unfold wv; omega
theorem Fp (x : BitVec 32) : BitVec.ofInt 32 (wv x) = x := by simp [wv]
theorem Mi (x : BitVec 32) : IntKind.u32.wrap (x.toNat : Int) = wv x := by rw [Gu]; simp
theorem Fk (x y : BitVec 32) : IntKind.u32.wrap (wv x + wv y) = wv (x + y) := by
 rw [Ql, Ql, ← Int.natCast_add, Gu]
 simp [wv, BitVec.toNat_add]
theorem Nr (x y : BitVec 32) : bits .and .u32 (wv x) (wv y) = wv (x &&& y) := by
 show IntKind.u32.wrap ((BitVec.ofInt 32 (wv x) &&& BitVec.ofInt 32 (wv y)).toNat : Int) = _
 rw [Fp, Fp, Mi]
theorem Uu (x y : BitVec 32) : bits .or .u32 (wv x) (wv y) = wv (x ||| y) := by
 show IntKind.u32.wrap ((BitVec.ofInt 32 (wv x) ||| BitVec.ofInt 32 (wv y)).toNat : Int) = _
 rw [Fp, Fp, Mi]
theorem Fh (x y : BitVec 32) : bits .xor .u32 (wv x) (wv y) = wv (x ^^^ y) := by
 show IntKind.u32.wrap ((BitVec.ofInt 32 (wv x) ^^^ BitVec.ofInt 32 (wv y)).toNat : Int) = _
 rw [Fp, Fp, Mi]
theorem wd_not (x : BitVec 32) : bits .xor .u32 4294967295 (wv x) = wv (~~~x) := by
 show IntKind.u32.wrap ((BitVec.ofInt 32 4294967295 ^^^ BitVec.ofInt 32 (wv x)).toNat : Int) = _
 rw [Fp, Mi]
 have : BitVec.ofInt 32 4294967295 = BitVec.allOnes 32 := by decide
 rw [this, BitVec.allOnes_xor]
theorem Uh (x : BitVec 32) (n : Nat) : wv x / 2 ^ n = wv (x >>> n) := by
 rw [Ql, Ql, BitVec.toNat_ushiftRight, Nat.shiftRight_eq_div_pow]
 simp
theorem Qu (x : BitVec 32) (n : Nat) : IntKind.u32.wrap (wv x * 2 ^ n) = wv (x <<< n) := by
 have : wv x * 2 ^ n = ((x.toNat * 2 ^ n : Nat) : Int) := by simp [wv]
 rw [this, Gu]
 simp [wv, BitVec.toNat_shiftLeft, Nat.shiftLeft_eq]
def Bp (x : BitVec 32) (n : Nat) : BitVec 32 := (x >>> n) ||| (x <<< (32 - n))
end Go.Proofs.YtfneahdnpmamkaaGreat
