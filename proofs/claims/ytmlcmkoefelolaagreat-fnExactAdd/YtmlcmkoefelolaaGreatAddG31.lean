/-
  Plain facts: an append to a row of records that may be longer. No program is named here. Contract of the program's zoneOf over a book's inOrder: the book's records in order, as a zone of its own. Contract of the program's zoneOf over a book's inOrder, wherever the iterator's box lies. Contract of the program's holds.
-/
import Derived.Test.YtmlcmkoefelolaaGreatAddG05
import Derived.Test.YtmlcmkoefelolaaGreatAddG30
import Derived.Test.YtmlcmkoefelolaaGreatAddG23
import Derived.Test.YtmlcmkoefelolaaGreatAddG17
import Derived.Test.YtmlcmkoefelolaaGreatAddG28
import Derived.Test.YtmlcmkoefelolaaGreatAddG27
import Derived.Test.YtmlcmkoefelolaaGreatAddG25
import Derived.Deep.RegionHeld3
namespace Go.Proofs.YtmlcmkoefelolaaGreat
open Go.RowKit
set_option linter.unusedVariables false
variable {P : Program} {w : World}

/-- 'append(s, r)' of one record whose cells lie in block g. -/
theorem run_append_recM {t ty e : TypeId} (ht : P.underlying t = some (.slice e)) {zs : Array Value} (hinfo : (P.info? e).map (fun i => (i.zero, i.size, i.bytes)) = some (some (.agg zs), 7, 120)) (hzs : zs.size = 7)
  {base : Nat} {v : Value} {n : Nat} {xs : List Value} (hown : w.ownsRow base e 7 v n xs) {g : Nat} {cs : List Value} (hg : w.heap[g]? = some (.cells cs.toArray e)) (hcl : cs.length = 7) (h1 : ∀ u ∈ cs, u.oneCell' = true) (hlen : n ≤ 999999) (hbase : base ≤ w.heap.size) :
  ∃ v' w', (Builtin.append_ #[t, t] ty #[v, .slice (some ⟨g, 0, none⟩) 1 1]).run P w = .ok v' w' ∧ w'.ownsRow base e 7 v' (n + 1) (xs ++ cs) ∧ w.grownBy w' v.ownBlock ∧ (v'.ownBlock = v.ownBlock ∨ v'.ownBlock = some w.heap.size) := by
 obtain ⟨i0, hi, hz0, hz1, hz2⟩ := info_parts hinfo
 have hc : ∀ j u, cs[j]? = some u → w.cell? ((⟨g, 0, none⟩ : Addr).add j) = some u := fun j u hj => by
  rw [Addr.add_lit, Nat.zero_add, block_cell hg]
  simpa using hj
 obtain ⟨v', w', h2, h3, h4, _⟩ := run_append_own (P := P) w base t ty e i0 (.agg zs) 7 120 ht hi hz0 hz1 hz2 hzs (by decide) v n xs hown ⟨g, 0, none⟩ 1 1 cs (by rw [hcl]) hc h1 (by unfold maxLen; omega) (by omega) hbase
 exact ⟨v', w', h2, h3, h4, where_recs ht hinfo hzs hown (by rw [hcl]) hc h1 (by decide) (by omega) h2⟩

/-- The same as a step of a region whose order is open. -/
theorem step_append_recM {ops : Array Oper} {o : Oper} {a : Act} {K : Act → World → Prop} {Q : Exit → Act → World → Prop} {E : Prop} (hgd : o.guard = none) (s x : Operand) (t e : TypeId)
  (ho : o.op = .call { callee := .builtin .append, args := #[s, x], argTypes := #[t, t] }) (ht : P.underlying t = some (.slice e)) (zs : Array Value)
  (hinfo : (P.info? e).map (fun i => (i.zero, i.size, i.bytes)) = some (some (.agg zs), 7, 120)) (hzs : zs.size = 7)
  (base : Nat) (v : Value) (n : Nat) (hs : a.eval s = v) (g : Nat) (cs : List Value) (hx : a.eval x = .slice (some ⟨g, 0, none⟩) 1 1) (hown : ∃ xs, w.ownsRow base e 7 v n xs)
  (hg : w.heap[g]? = some (.cells cs.toArray e)) (hcl : cs.length = 7) (h1 : ∀ u ∈ cs, u.oneCell' = true) (hlen : n ≤ 999999) (hbase : base ≤ w.heap.size)
  (h : ∀ v' w', (∀ xs, w.ownsRow base e 7 v n xs → w'.ownsRow base e 7 v' (n + 1) (xs ++ cs)) → w.grownBy w' v.ownBlock → (v'.ownBlock = v.ownBlock ∨ v'.ownBlock = some w.heap.size) → K (a.put o.dst v') w') : if Region.wanted o (yielded ops a.tmps) = true then Oper.wp P o a w K Q else E := by
 have hw : Region.wanted o (yielded ops a.tmps) = true := by simp [Region.wanted, hgd]
 rw [if_pos hw]
 obtain ⟨xs0, hx0⟩ := hown
 obtain ⟨v', w', hr', h2, h3, h4⟩ := run_append_recM (P := P) (ty := o.type) ht hinfo hzs hx0 hg hcl h1 hlen hbase
 have hall : ∀ xs, w.ownsRow base e 7 v n xs → w'.ownsRow base e 7 v' (n + 1) (xs ++ cs) := fun xs hxs => by
  obtain ⟨v2, w2, hr2, h22, _, _⟩ := run_append_recM (P := P) (ty := o.type) ht hinfo hzs hxs hg hcl h1 hlen hbase
  rw [hr'] at hr2
  simp only [Result.ok.injEq] at hr2
  rw [hr2.1, hr2.2]
  exact h22
 unfold Oper.wp execOp
 simp only [ho, resolve, invoke, builtin, Sem.run_bind, Sem.run_pure, Result.andThen_ok, List.map_toArray, List.map_cons, List.map_nil, hs, hx, hr']
 exact h v' w' hall h3 h4
end Go.Proofs.YtmlcmkoefelolaaGreat

namespace Go.Proofs.YtmlcmkoefelolaaGreat
open Go.RowKit Go.Shelf
set_option linter.unusedVariables false

theorem kpZ_b {n0 : Nat} {w : World} (hn : n0 ≤ w.heap.size) (W : World) (l : Nat) (r r' : Loop) (hl : w.heap.size ≤ l) (h : W.heap[l]? = some (.loop r)) : KpZ n0 l W (W.putObj l (.loop r')) := by
 refine ⟨belowK_b hn W l _ _ hl h rfl rfl, fun g o q e f => ?_⟩
 by_cases hgl : g = l
 ·subst hgl
  rw [h] at q
  cases q
  exact absurd rfl (f rfl)
 ·exact (World.putObj_heap_other hgl).trans q
theorem row_stays {B b n s : Nat} {w : World} {v : Value} {xs : List Value} {o : Obj} (h : w.ownsRow B 52 s v n xs) (hb : w.heap[b]? = some o) (ho : stays o = true) : v.ownBlock ≠ some b := by
 intro hq
 rcases h.2 with ⟨rfl, _⟩ | ⟨g, cap, cur, rfl, _, hg, _⟩
 ·simp [Value.ownBlock] at hq
 ·simp [Value.ownBlock] at hq
  subst hq
  rw [hg] at hb
  cases hb
  cases ho

set_option maxHeartbeats 8000000 in
set_option maxRecDepth 100000 in
theorem zoneOfO_in {w0 w : World} (hw0 : Below w0.heap.size w0 w) {vo : Value} {o : List (List Int)} (ho : HasL w vo o) (ho1 : o.length ≤ 6) (ho2 : ∀ k, k < o.length → (o.getD k []).length ≤ 15) {rs : List Rec} (hlen : rs.length ≤ 1000) {gf : Nat} {lb : Array Value}
  (eg : ∀ args w, (callFunc gf args).run Tryz.prog w = .ok (.enter gf args) w)
  (hseq : SeqAllO Fence.wide 10 Tryz.prog gf lb (fun x : RecV w0 => encV x) (KpZ w0.heap.size) (fun xs => xs.map (·.1.2) = rs) 1000000 w) :
  CallsIn Fence.wide 11 Tryz.prog 69 #[.agg #[vo], .func (.func gf) #[] lb] w fun e w' => ∃ uo ur, e = .returned (.agg #[uo, ur]) ∧ OwnZ w.heap.size w'.heap.size w' uo ur o rs ∧ Below w.heap.size w w' := by
 obtain ⟨oa, oc, rfl, _⟩ := ho.form
 obtain ⟨hsz, k0, r0⟩ := box2 w (.cells #[.slice oa o.length oc] 32) #[.slice none 0 0, .slice none 0 0] 34
 have b0 := below2 w (.cells #[.slice oa o.length oc] 32) (.cells #[.slice none 0 0, .slice none 0 0] 34)
 have HC := hide (copyName_has (ho.below b0) ho1 ho2)
 have KR := hide r0
 have zz := block_lt r0
 have c0 := block_one k0
 clear hsz k0 r0 ho ho1 ho2
 refine callsIn_of_wp_marks Tryz.func69 rfl trivial ?_ rfl
 simp only [Tryz.ntmps69, List.size_toArray, List.length_cons, List.length_nil, Nat.reduceAdd, Nat.reduceSub, Array.replicate_succ, Array.replicate_zero, List.push_toArray, List.append_toArray, List.nil_append, List.cons_append]
 gi_wp2_with (refine ⟨trivial, ?_⟩; gi_at_call 106; refine (callsIn_wide.2 (unhide HC)).mono ?_; rintro e w1 ⟨v1, rfl, o1, b1⟩; obtain ⟨p1, q1, rfl, _⟩ := o1.hasL.form)
 have bz := below_alloc (w := w1) (.cells #[.slice p1 o.length q1, .slice none 0 0] 34)
 have kz := heap_alloc_new w1 (.cells #[.slice p1 o.length q1, .slice none 0 0] 34)
 have kr := block_kept bz (block_kept b1 (unhide KR))
 have hB0 := below_next (below_next b0 b1) bz
 have ON := (o1.here.wide (C' := w.heap.size + 2) (E' := w1.heap.size) (by omega) (Nat.le_refl _)).below bz
 have z1 := b1.size
 have zk := block_lt kz
 have hz2 : w.heap.size + 2 ≤ w1.heap.size := by omega
 clear HC KR b0 b1 o1 c0 bz
 generalize hW0 : w1.alloc (.cells #[.slice p1 o.length q1, .slice none 0 0] 34) = W0 at *
 clear hW0
 refine range_all rfl (by omega) (gf := gf) (lb := lb) rfl trivial eg hseq (fun h k => kpZ_t h k) (kpZ_b (Nat.le_trans hw0.size hB0.size)) hB0 (fun _ => rfl)
  (GotZ w w1.heap.size (.slice p1 o.length q1) o w0) (gotZ_own w w1.heap.size _ o w0 _ hB0.size)
  ⟨⟨.slice none 0 0, kz, RowO.nil _ _ _ _ _ _ _, ON, kr, hz2⟩, hB0⟩
  (fun x a' W => ∃ Bx, w1.heap.size < Bx ∧ W.heap[Bx]? = some (.cells (cellsV x) 52) ∧ a' = { tmps := #[.agg #[.slice oa o.length oc], .func (.func gf) #[] lb, .pointer (some ⟨w.heap.size, 0, none⟩), undef, .pointer (some ⟨w.heap.size + 1, 0, none⟩), .pointer (some ⟨w1.heap.size, 0, none⟩), .pointer (some ⟨Bx, 0, none⟩), .agg #[.slice oa o.length oc], .agg #[.slice p1 o.length q1], .agg #[.slice p1 o.length q1, .slice none 0 0], .func (.func gf) #[] lb, .agg (cellsV x), undef, undef, undef, undef, undef, undef, undef, undef], defers := [] })
  (fun x a' _ W W' row ⟨Bx, q1, q2, q3⟩ hg hr => ⟨Bx, q1, keptC_of hg (fun r e => (hr r e).2) _ _ _ q2, q3⟩) ?assign ?body ?done
 case assign =>
  rintro lr pre x W K hi hK
  have hsem := Oper.semAt_some lr
  obtain ⟨⟨⟨vn, vt, vx, vi⟩, r⟩, hRR⟩ := x
  have hR := hRR.1
  have hS := hRR.2
  dsimp only at hR hS hRR
  obtain ⟨na, nc, rfl, _⟩ := hR.name.form
  obtain ⟨ta, tc, rfl, _⟩ := hR.to.form
  obtain ⟨xa, xc, rfl, _⟩ := hR.text.form
  obtain ⟨ia, ic, rfl, _⟩ := hR.nums.form
  have zW := block_lt hi.1.choose_spec.1
  have ba := below_alloc (w := W) (.cells #[.slice na r.name.length nc, .int .i64 r.type, .int .i64 r.ttl, .int .i64 r.addr, .slice ta r.to.length tc, .slice xa r.text.length xc, .slice ia r.nums.length ic] 52)
  have hi2 := gotZ_own w w1.heap.size _ o w0 w.heap.size (Nat.le_refl _) pre W _ none hi (World.grownBy_alloc W (.cells #[.slice na r.name.length nc, .int .i64 r.type, .int .i64 r.ttl, .int .i64 r.addr, .slice ta r.to.length tc, .slice xa r.text.length xc, .slice ia r.nums.length ic] 52) none) (fun r e => by cases e)
  have kx := heap_alloc_new W (.cells #[.slice na r.name.length nc, .int .i64 r.type, .int .i64 r.ttl, .int .i64 r.addr, .slice ta r.to.length tc, .slice xa r.text.length xc, .slice ia r.nums.length ic] 52)
  have HK := hide hK
  have H2 := hide hi2
  have KX := hide kx
  have BA := hide ba
  clear hK hi2 kx ba hi
  unfold encV
  gi_wp2
  exact unhide HK _ _ ((KeepsOthers.alloc _ _).from _) (kpZ_below (unhide BA) (Nat.le_trans hw0.size (by omega))) (unhide H2) ⟨W.heap.size, zW, unhide KX, rfl⟩
 case body =>
  rintro lr pre x a' W hl ⟨⟨vr, kZ, hrow, hoN, kR, hz3⟩, hB⟩ ⟨Bx, hBx, kX, rfl⟩ hlt
  have hsem := Oper.semAt_some lr
  obtain ⟨⟨⟨vn, vt, vx, vi⟩, r⟩, hRR⟩ := x
  have hR := hRR.1
  have hS := hRR.2
  dsimp only at hR hS hRR
  obtain ⟨na, nc, rfl, _⟩ := hR.name.form
  obtain ⟨ta, tc, rfl, _⟩ := hR.to.form
  obtain ⟨xa, xc, rfl, _⟩ := hR.text.form
  obtain ⟨ia, ic, rfl, _⟩ := hR.nums.form
  obtain ⟨ra, rc, rfl, _⟩ := hrow.form
  have hpl : (pre.map (·.1.2)).length = pre.length := List.length_map _
  rw [hpl] at kZ hrow
  replace kX : W.heap[Bx]? = some (.cells #[.slice na r.name.length nc, .int .i64 r.type, .int .i64 r.ttl, .int .i64 r.addr, .slice ta r.to.length tc, .slice xa r.text.length xc, .slice ia r.nums.length ic] 52) := kX
  have hlp : pre.length ≤ 999999 := by omega
  have bd := below_drew (w := W)
  have KZ := hide (block_kept bd kZ)
  have KX := hide (block_kept bd kX)
  have KRR := hide (block_kept bd kR)
  have ROW := hide (hrow.below bd)
  have OO := hide (hoN.below bd)
  have BB := hide (below_next hB bd)
  have zB := hB.size
  have zW := block_lt kZ
  have HR := hide (hR.below (below_next (below_next hw0 hB) bd))
  have HSS := hide hS
  have zd := bd.size
  have BD := hide bd
  have hW0s := hw0.size
  clear kZ kX kR hrow hoN hB hR hS bd kz kr ON hB0
  unfold cellsV
  dsimp only
  gi_wp2
  refine regionIn_any (by rintro ⟨a', w', hq⟩; exact hq) (by kernel_rfl) (by kernel_rfl) ?_
  show wpAny _ _ _ _ _ _ _ W.drew
  generalize W.drew = Wd at *
  have cZ : Wd.cell? ⟨w1.heap.size, 1, none⟩ = some (.slice ra pre.length rc) := block_cell (unhide KZ) 1
  obtain ⟨d0, d1, d2, d3, d4, d5, d6⟩ := cells7 (unhide KX)
  refine wpAny_take (i := 0) (oi := ⟨some 12, Op.fieldAddr 34 (.tmp 5) 1, 0, "l05_zone.go:154", #[], none⟩) (v := .pointer (some ⟨w1.heap.size, 1, none⟩)) rfl (by kernel_rfl) (by kernel_rfl) (by kernel_rfl) (fun _ _ _ h => h) (Or.inl ⟨by rfl, fun w => by go_simp⟩) ?_
  try simp only [Act.put, List.setIfInBounds_toArray, List.set_cons_zero, List.set_cons_succ]
  refine any_takeT (i := 1) (oi := ⟨some 13, Op.load 30 (.tmp 12), 30, "l05_zone.go:154", #[⟨0, .data⟩], none⟩) (v := .slice ra pre.length rc) (fun w' => w'.cell? ⟨w1.heap.size, 1, none⟩ = some (.slice ra pre.length rc)) rfl (by kernel_rfl) (by kernel_rfl) (by kernel_rfl) (fun _ _ _ h => h) (Or.inl ⟨by rfl, fun w' hw' => by go_simp⟩) cZ ?_
  try simp only [Act.put, List.setIfInBounds_toArray, List.set_cons_zero, List.set_cons_succ]
  refine anyT_ready (js := [2]) (by kernel_rfl) (by simp) (AllT.cons (o := ⟨some 14, Op.load 52 (.tmp 6), 52, "l05_zone.go:154", #[], none⟩) rfl (fun K hK => ?_) AllT.nil)
  have HK := hide hK
  clear hK
  go_simp
  refine unhide HK _ _ cZ ?_
  clear HK K d0 d1 d2 d3 d4 d5 d6
  try simp only [Act.put, List.setIfInBounds_toArray, List.set_cons_zero, List.set_cons_succ]
  refine anyT_ready (js := [3]) (by kernel_rfl) (by simp) (AllT.cons (o := ⟨some 15, Op.call { callee := Callee.value (Operand.func 97), args := #[Operand.tmp 14], argTypes := #[52] }, 52, "l05_zone.go:154", #[⟨2, .data⟩], none⟩) rfl (fun K hK => ?_) AllT.nil)
  have HK := hide hK
  clear hK
  go_simp
  refine (copyRr_own (unhide HR) (unhide HSS)).mono ?_
  rintro e w2 ⟨un, ut, ux, ui, rfl, oR, b2⟩
  obtain ⟨pa, pc, rfl, _⟩ := oR.hasR.name.form
  obtain ⟨qa, qc, rfl, _⟩ := oR.hasR.to.form
  obtain ⟨ya, yc, rfl, _⟩ := oR.hasR.text.form
  obtain ⟨za, zc, rfl, _⟩ := oR.hasR.nums.form
  have OR := hide oR
  have B2 := hide b2
  have z2 := b2.size
  have cZ2 : w2.cell? ⟨w1.heap.size, 1, none⟩ = some (.slice ra pre.length rc) := block_cell (block_kept b2 (unhide KZ)) 1
  clear oR b2
  go_simp
  refine unhide HK _ _ cZ2 ?_
  clear HK K cZ cZ2
  try simp only [Act.put, List.setIfInBounds_toArray, List.set_cons_zero, List.set_cons_succ]
  have b3 := below_alloc (w := w2) (.cells #[.slice pa r.name.length pc, .int .i64 r.type, .int .i64 r.ttl, .int .i64 r.addr, .slice qa r.to.length qc, .slice ya r.text.length yc, .slice za r.nums.length zc] 52)
  have g3 := heap_alloc_new w2 (.cells #[.slice pa r.name.length pc, .int .i64 r.type, .int .i64 r.ttl, .int .i64 r.addr, .slice qa r.to.length qc, .slice ya r.text.length yc, .slice za r.nums.length zc] 52)
  have k3 := block_kept b3 (block_kept (unhide B2) (unhide KZ))
  have row3 := ((unhide ROW).below (unhide B2)).below b3
  have OR3 := hide ((unhide OR).below b3)
  have on3 := ((unhide OO).below (unhide B2)).below b3
  have kr3 := block_kept b3 (block_kept (unhide B2) (unhide KRR))
  have bb3 := below_next (below_next (unhide BB) (unhide B2)) b3
  have z3 := b3.size
  have B3 := hide b3
  have G3 := hide g3
  have K3 := hide k3
  have ROW3 := hide row3
  have ON3 := hide on3
  have KR3 := hide kr3
  have BB3 := hide bb3
  have cZ3 : (w2.alloc (.cells #[.slice pa r.name.length pc, .int .i64 r.type, .int .i64 r.ttl, .int .i64 r.addr, .slice qa r.to.length qc, .slice ya r.text.length yc, .slice za r.nums.length zc] 52)).cell? ⟨w1.heap.size, 1, none⟩ = some (.slice ra pre.length rc) := block_cell k3 1
  clear b3 g3 k3 row3 on3 kr3 bb3 ROW OO KRR KX HR HSS OR
  refine anyT_ready (js := [4]) (by kernel_rfl) (by simp) (AllT.cons (o := ⟨some 16, Op.buildSlice 30 1 #[(0, Operand.tmp 15)], 30, "l05_zone.go:154", #[⟨3, .data⟩], none⟩) rfl (fun K hK => ?_) AllT.nil)
  have HK := hide hK
  clear hK
  go_simp
  refine unhide HK _ _ cZ3 ?_
  clear HK K cZ3
  try simp only [Act.put, List.setIfInBounds_toArray, List.set_cons_zero, List.set_cons_succ]
  generalize w2.alloc (.cells #[.slice pa r.name.length pc, .int .i64 r.type, .int .i64 r.ttl, .int .i64 r.addr, .slice qa r.to.length qc, .slice ya r.text.length yc, .slice za r.nums.length zc] 52) = w3 at *
  refine AnyT.over _ _ _ _ (by kernel_rfl) ?_
  refine wpAny_ready (rs := [5]) (by kernel_rfl) (by simp) (AllReady.cons (o := ⟨some 17, Op.call { callee := Callee.builtin Builtin.append, args := #[Operand.tmp 13, Operand.tmp 16], argTypes := #[30, 30] }, 30, "l05_zone.go:154", #[⟨1, .data⟩, ⟨4, .data⟩, ⟨3, .chain⟩], none⟩) rfl (fun K hK => ?_) AllReady.nil)
  have HK := hide hK
  clear hK
  obtain ⟨xs3, f3, g3, hx3, hq3, hh3⟩ := unhide ROW3
  rw [hpl] at hx3
  refine step_append_recM rfl (.tmp 13) (.tmp 16) 30 52 rfl Tryz.underlying30 _ info_rrZ rfl (w1.heap.size + 1) (.slice ra pre.length rc) pre.length (by simp [Act.eval]) w2.heap.size [.slice pa r.name.length pc, .int .i64 r.type, .int .i64 r.ttl, .int .i64 r.addr, .slice qa r.to.length qc, .slice ya r.text.length yc, .slice za r.nums.length zc] (by simp [Act.eval]) ⟨xs3, hx3⟩ (unhide G3) rfl (by simp [Value.oneCell']) (by omega) (by omega) ?_
  intro v4 w4 ho4 g4 hw4
  have row4 := RowO.snoc (unhide ROW3) (C := Wd.heap.size) (D := w2.heap.size) zd z3 (unhide OR3) (by omega) g4 hw4 (by rw [hpl]; exact ho4)
  have u4 : Outside (w1.heap.size + 1) w3.heap.size w3 w4 := outside_grown g4 (fun k hk => World.ownsRow.lt hx3 k hk)
  have k4 := block_grown g4 (unhide K3) (row_type hx3 (unhide K3) (by decide))
  have kf := keepsFrom_of (B := W0.heap.size) (j := 1) (v4 := v4) (unhide BD) (unhide B2) (unhide B3) g4 (fun k o h1 h2 => row_notC hx3 h1 h2) k4
  have on4 := (unhide ON3).outside u4 (.inl (by omega))
  have kr4 := u4.kept (unhide KR3) (by omega)
  have u5 := outside_set w4 w1.heap.size 1 v4
  have z4 := u4.size
  have z5 := u5.size
  have bel : Below w0.heap.size W (w4.setCell ⟨w1.heap.size, 1, none⟩ v4) := u5.belowAt (u4.belowAt (((unhide BD).mono (by omega)).trans (((unhide B2).mono (by omega)).trans ((unhide B3).mono (by omega)))) (by omega) (by omega)) (by omega) (by omega)
  have bb5 : Below w.heap.size w (w4.setCell ⟨w1.heap.size, 1, none⟩ v4) := u5.below (u4.below (unhide BB3) (by omega)) (by omega)
  have FIN : Hid (GotZ w w1.heap.size (.slice p1 o.length q1) o w0 (pre ++ [⟨((.slice na r.name.length nc, .slice ta r.to.length tc, .slice xa r.text.length xc, .slice ia r.nums.length ic), r), hRR⟩]) (w4.setCell ⟨w1.heap.size, 1, none⟩ v4)) := ⟨⟨v4, block_setAt k4 1 v4, by rw [List.map_append]; exact (row4.outside u5 (.inr (Nat.le_refl _))).wide (Nat.le_refl _) z5, on4.outside u5 (.inl (Nat.le_refl _)), u5.kept kr4 (by omega), hz3⟩, bb5⟩
  have KF := hide kf
  have KPZ : Hid (KpZ w0.heap.size lr W (w4.setCell ⟨w1.heap.size, 1, none⟩ v4)) := by
   refine ⟨bel, fun g o' q e' _ => ?_⟩
   have q3 := block_kept (unhide B3) (block_kept (unhide B2) (block_kept (unhide BD) q))
   have q4 := block_grown g4 q3 (row_stays hx3 q3 e')
   refine block_grown (grown_setCell w4 ⟨w1.heap.size, 1, none⟩ v4) q4 ?_
   intro e
   simp only [Option.some.injEq] at e
   rw [← e, k4] at q4
   cases q4
   cases e'
  have c4 := block_cell k4 1
  have f4 := block_frozen k4 1
  simp only [List.getElem?_toArray, List.getElem?_cons_zero, List.getElem?_cons_succ] at c4
  obtain ⟨v4a, v4c, hv4, _⟩ := row4.form
  rw [List.length_append, hpl] at hv4
  replace hv4 : v4 = .slice v4a (pre.length + 1) v4c := hv4
  subst hv4
  clear row4 u4 k4 kf on4 kr4 u5 bel bb5 ho4 g4 hw4 hx3 hq3 hh3 ROW3 OR3 ON3 KR3 BB3 G3 K3 B2 B3 BD BB
  refine unhide HK _ _ ?_
  clear HK K
  try simp only [Act.put, List.setIfInBounds_toArray, List.set_cons_zero, List.set_cons_succ]
  refine wpAny_take (i := 6) (oi := ⟨some 18, Op.fieldAddr 34 (.tmp 5) 1, 0, "l05_zone.go:154", #[⟨0, .phase⟩, ⟨1, .phase⟩, ⟨2, .phase⟩, ⟨3, .phase⟩, ⟨4, .phase⟩, ⟨5, .phase⟩], none⟩) (v := .pointer (some ⟨w1.heap.size, 1, none⟩)) rfl (by kernel_rfl) (by kernel_rfl) (by kernel_rfl) (fun _ _ _ h => h) (Or.inl ⟨by rfl, fun w => by go_simp⟩) ?_
  try simp only [Act.put, List.setIfInBounds_toArray, List.set_cons_zero, List.set_cons_succ]
  refine wpAny_ready (rs := [7]) (by kernel_rfl) (by simp) (AllReady.cons (o := ⟨none, Op.store 30 (.tmp 18) (.tmp 17), 0, "l05_zone.go:154", #[⟨6, .data⟩, ⟨5, .data⟩, ⟨5, .chain⟩, ⟨0, .phase⟩, ⟨1, .phase⟩, ⟨2, .phase⟩, ⟨3, .phase⟩, ⟨4, .phase⟩, ⟨5, .phase⟩], none⟩) rfl (fun K hK => ?_) AllReady.nil)
  have HK := hide hK
  clear hK
  go_simp
  refine unhide HK _ _ ?_
  clear HK K
  refine wpAny_done (by kernel_rfl) ?_ _
  exact ⟨unhide KF, unhide KPZ, unhide FIN⟩
 case done =>
  rintro D xs W hD hS ⟨⟨vr, kZ, hrow, hoN, kR, hz3⟩, hB⟩ hK
  rw [hS] at hrow
  obtain ⟨ra, rc, rfl, _⟩ := hrow.form
  obtain ⟨e0, e1⟩ : W.cell? ⟨w1.heap.size, 0, none⟩ = some (.slice p1 o.length q1) ∧ W.cell? ⟨w1.heap.size, 1, none⟩ = some (.slice ra rs.length rc) := ⟨block_cell kZ 0, block_cell kZ 1⟩
  obtain ⟨g0, g1⟩ : W.cell? ⟨w.heap.size + 1, 0, none⟩ = some (.slice none 0 0) ∧ W.cell? ⟨w.heap.size + 1, 1, none⟩ = some (.slice none 0 0) := ⟨block_cell kR 0, block_cell kR 1⟩
  have h0 := block_frozen kR 0
  have h1 := block_frozen kR 1
  have KRR := hide kR
  have ROW := hide hrow
  have OO := hide hoN
  have BB := hide hB
  have HKK := hide hK
  have zW := block_lt kZ
  have zD := block_lt hK
  clear kZ kR hrow hoN hB hK kz kr ON
  gi_wp2
  have kf : ((W.setCell ⟨w.heap.size + 1, 0, none⟩ (.slice p1 o.length q1)).setCell ⟨w.heap.size + 1, 1, none⟩ (.slice ra rs.length rc)).heap[w.heap.size + 1]? = some (.cells #[.slice p1 o.length q1, .slice ra rs.length rc] 34) := block_setAt (block_setAt (unhide KRR) 0 _) 1 _
  have u5 := (outside_set W (w.heap.size + 1) 0 (.slice p1 o.length q1)).trans (outside_set _ (w.heap.size + 1) 1 (.slice ra rs.length rc))
  have sD := ((KeepsOthers.setCell W ⟨w.heap.size + 1, 0, none⟩ (.slice p1 o.length q1)).trans (KeepsOthers.setCell _ ⟨w.heap.size + 1, 1, none⟩ (.slice ra rs.length rc))).same D _ (unhide HKK) rfl
  have row5 := (unhide ROW).outside u5 (.inr (by omega))
  have on5 := (unhide OO).outside u5 (.inr (by omega))
  have bb5 := u5.below (unhide BB) (by omega)
  have z5 := u5.size
  generalize (W.setCell ⟨w.heap.size + 1, 0, none⟩ (.slice p1 o.length q1)).setCell ⟨w.heap.size + 1, 1, none⟩ (.slice ra rs.length rc) = w5 at *
  refine ⟨by simp, .inl ⟨_, _, rfl, run_takeDeferred sD, ?_⟩⟩
  have hkk := keptC_of (grownBy_putObj' w5 D (.deferred none)) (fun r e => by cases e; exact ⟨_, sD, rfl⟩)
  have zp := (grownBy_putObj' w5 D (.deferred none)).size
  exact ⟨_, results_cell_row rfl _ _ (w.heap.size + 1) 34 #[.slice p1 o.length q1, .slice ra rs.length rc] (0, 0) _ rfl (hkk _ _ _ kf) Tryz.underlying34 rfl (by kernel_rfl), _, _, rfl, ⟨w1.heap.size, by omega, by omega, (on5.keptC hkk).wide (by omega) (Nat.le_refl _), (row5.keptC hkk).wide (by omega) (by omega)⟩, bb5.trans (belowK_b (w := w) (Nat.le_refl _) w5 D _ _ (by omega) sD rfl rfl)⟩
end Go.Proofs.YtmlcmkoefelolaaGreat

namespace Go.Proofs.YtmlcmkoefelolaaGreat
open Go.RowKit Go.Shelf
set_option linter.unusedVariables false

theorem zoneOfB_at {w : World} {n0 b Bt : Nat} {B : Bk} {vo : Value} {o : List (List Int)} (hB : BookM n0 w b B) (hBt : w.heap[Bt]? = some (.cells #[.map (some b)] 79)) (ho : HasL w vo o) (hok : nameOk o = true) (hl : B.length ≤ 1000) (hsh : ∀ q ∈ B, ShortP q.2) (hlen : (sortB B).length ≤ 1000) :
  Calls Tryz.prog 69 #[.agg #[vo], .func (.func 107) #[] #[.pointer (some ⟨Bt, 0, none⟩)]] w fun e w' => ∃ uo ur, e = .returned (.agg #[uo, ur]) ∧ OwnZ w.heap.size w'.heap.size w' uo ur o (sortB B) ∧ Below w.heap.size w w' := by
 have hp := nameOk_parts hok
 exact callsIn_wide.1 (zoneOfO_in (Below.refl _ w) ho hp.1 (fun k hk => (labelOk_length (hp.2 k hk)).2) hlen (enters_of Tryz.func107 (by kernel_rfl) rfl) (inOrder_all Bt w w b n0 B hB hl hsh (Below.refl _ _) hBt))
end Go.Proofs.YtmlcmkoefelolaaGreat

namespace Go.Proofs.YtmlcmkoefelolaaGreat
open Go.RowKit Go.Shelf
open Go.ChangeMaps (setBlock heap_setBlock_same heap_setBlock_other)
open Go.MapKept (stamped_iff stamped_erase Stamped)
open Go.Maps (Keyed string_keyed)
open Go.WideMaps (keyOf_string_mk)
set_option linter.unusedVariables false

end Go.Proofs.YtmlcmkoefelolaaGreat
