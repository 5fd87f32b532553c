/-
  Contract of the program's zoneOf over a book's inOrder: the book's records in order, as a zone of its own. Plain facts for the program's functions that take records out of a zone. Contract of the program's set, at the book of a zone that may be and a name that may be. Contract of the program's askable.
-/
import Derived.Test.YthobpbnaklnbiaaGreatFnDropSetsG44
namespace Go.Proofs.YthobpbnaklnbiaaGreat
open Go.RowKit Go.Shelf
set_option linter.unusedVariables false

theorem kpZ_b {n0 : Nat} {w : World} (hn : n0 ≤ w.heap.size) (W : World) (l : Nat) (r r' : Loop) (hl : w.heap.size ≤ l) (h : W.heap[l]? = some (.loop r)) : KpZ n0 l W (W.putObj l (.loop r')) := by
 refine ⟨belowK_b hn W l _ _ hl h rfl rfl, fun g o q e f => ?_⟩
 by_cases hgl : g = l
 ·subst hgl
  rw [h] at q
  cases q
  exact absurd rfl (f rfl)
 ·exact (World.putObj_heap_other hgl).trans q
theorem Xt {B b n s : Nat} {w : World} {v : Value} {xs : List Value} {o : Obj} (h : w.ownsRow B 39 s v n xs) (hb : w.heap[b]? = some o) (ho : stays o = true) : v.ownBlock ≠ some b := by
 intro hq
 rcases h.2 with ⟨rfl, _⟩ | ⟨g, cap, cur, rfl, _, hg, _⟩
 ·simp [Value.ownBlock] at hq
 ·simp [Value.ownBlock] at hq
  subst hq
  rw [hg] at hb
  cases hb
  cases ho

set_option maxHeartbeats 8000000 in
set_option maxRecDepth 100000 in
theorem Um {w0 w : World} (hw0 : Below w0.heap.size w0 w) {vo : Value} {o : List (List Int)} (ho : HasL w vo o) (ho1 : o.length ≤ 6) (ho2 : ∀ k, k < o.length → (o.getD k []).length ≤ 15) {rs : List Rec} (hlen : rs.length ≤ 1000) {gf : Nat} {lb : Array Value}
  (eg : ∀ args w, (callFunc gf args).run Tryz.prog w = .ok (.enter gf args) w)
  (hseq : Q7 Fence.wide 10 Tryz.prog gf lb (fun x : RecV w0 => encV x) (KpZ w0.heap.size) (fun xs => xs.map (·.1.2) = rs) 1000000 w) :
  CallsIn Fence.wide 11 Tryz.prog 27 #[.agg #[vo], .func (.func gf) #[] lb] w fun e w' => ∃ uo ur, e = .returned (.agg #[uo, ur]) ∧ OwnZ w.heap.size w'.heap.size w' uo ur o rs ∧ Below w.heap.size w w' := by
 obtain ⟨oa, oc, rfl, _⟩ := ho.form
 obtain ⟨hsz, k0, r0⟩ := box2 w (.cells #[.slice oa o.length oc] 25) #[.slice none 0 0, .slice none 0 0] 28
 have b0 := Ba w (.cells #[.slice oa o.length oc] 25) (.cells #[.slice none 0 0, .slice none 0 0] 28)
 have HC := UC (Ff (ho.below b0) ho1 ho2)
 have KR := UC r0
 have zz := VC r0
 have c0 := US k0
 clear hsz k0 r0 ho ho1 ho2
 refine callsIn_of_wp_marks Tryz.func27 rfl trivial ?_ rfl
 simp only [Tryz.ntmps27, List.size_toArray, List.length_cons, List.length_nil, Nat.reduceAdd, Nat.reduceSub, Array.replicate_succ, Array.replicate_zero, List.push_toArray, List.append_toArray, List.nil_append, List.cons_append]
 gi_wp2_with (refine ⟨trivial, ?_⟩; gi_at_call 61; refine (callsIn_wide.2 (UB HC)).mono ?_; rintro e w1 ⟨v1, rfl, o1, b1⟩; obtain ⟨p1, q1, rfl, _⟩ := o1.hasL.form)
 have bz := UI (w := w1) (.cells #[.slice p1 o.length q1, .slice none 0 0] 28)
 have kz := heap_alloc_new w1 (.cells #[.slice p1 o.length q1, .slice none 0 0] 28)
 have kr := UE bz (UE b1 (UB KR))
 have hB0 := UG (UG b0 b1) bz
 have ON := (o1.here.wide (C' := w.heap.size + 2) (E' := w1.heap.size) (by omega) (Nat.le_refl _)).below bz
 have z1 := b1.size
 have zk := VC kz
 have hz2 : w.heap.size + 2 ≤ w1.heap.size := by omega
 clear HC KR b0 b1 o1 c0 bz
 generalize hW0 : w1.alloc (.cells #[.slice p1 o.length q1, .slice none 0 0] 28) = W0 at *
 clear hW0
 refine Xg rfl (by omega) (gf := gf) (lb := lb) rfl trivial eg hseq (fun h k => P7 h k) (kpZ_b (Nat.le_trans hw0.size hB0.size)) hB0 (fun _ => rfl)
  (GotZ w w1.heap.size (.slice p1 o.length q1) o w0) (Ki w w1.heap.size _ o w0 _ hB0.size)
  ⟨⟨.slice none 0 0, kz, RowO.nil _ _ _ _ _ _ _, ON, kr, hz2⟩, hB0⟩
  (fun x a' W => ∃ Bx, w1.heap.size < Bx ∧ W.heap[Bx]? = some (.cells (E2 x) 39) ∧ a' = { tmps := #[.agg #[.slice oa o.length oc], .func (.func gf) #[] lb, .pointer (some ⟨w.heap.size, 0, none⟩), undef, .pointer (some ⟨w.heap.size + 1, 0, none⟩), .pointer (some ⟨w1.heap.size, 0, none⟩), .pointer (some ⟨Bx, 0, none⟩), .agg #[.slice oa o.length oc], .agg #[.slice p1 o.length q1], .agg #[.slice p1 o.length q1, .slice none 0 0], .func (.func gf) #[] lb, .agg (E2 x), undef, undef, undef, undef, undef, undef, undef, undef], defers := [] })
  (fun x a' _ W W' row ⟨Bx, q1, q2, q3⟩ hg hr => ⟨Bx, q1, Da hg (fun r e => (hr r e).2) _ _ _ q2, q3⟩) ?assign ?body ?done
 case assign =>
  rintro lr pre x W K hi hK
  have hsem := Oper.semAt_some lr
  obtain ⟨⟨⟨vn, vt, vx, vi⟩, r⟩, hRR⟩ := x
  have hR := hRR.1
  have hS := hRR.2
  dsimp only at hR hS hRR
  obtain ⟨na, nc, rfl, _⟩ := hR.name.form
  obtain ⟨ta, tc, rfl, _⟩ := hR.to.form
  obtain ⟨xa, xc, rfl, _⟩ := hR.text.form
  obtain ⟨ia, ic, rfl, _⟩ := hR.nums.form
  have zW := VC hi.1.choose_spec.1
  have ba := UI (w := W) (.cells #[.slice na r.name.length nc, .int .i64 r.type, .int .i64 r.ttl, .int .i64 r.addr, .slice ta r.to.length tc, .slice xa r.text.length xc, .slice ia r.nums.length ic] 39)
  have hi2 := Ki w w1.heap.size _ o w0 w.heap.size (Nat.le_refl _) pre W _ none hi (World.grownBy_alloc W (.cells #[.slice na r.name.length nc, .int .i64 r.type, .int .i64 r.ttl, .int .i64 r.addr, .slice ta r.to.length tc, .slice xa r.text.length xc, .slice ia r.nums.length ic] 39) none) (fun r e => by cases e)
  have kx := heap_alloc_new W (.cells #[.slice na r.name.length nc, .int .i64 r.type, .int .i64 r.ttl, .int .i64 r.addr, .slice ta r.to.length tc, .slice xa r.text.length xc, .slice ia r.nums.length ic] 39)
  have HK := UC hK
  have H2 := UC hi2
  have KX := UC kx
  have BA := UC ba
  clear hK hi2 kx ba hi
  unfold encV
  gi_wp2
  exact UB HK _ _ ((KeepsOthers.alloc _ _).from _) (I8 (UB BA) (Nat.le_trans hw0.size (by omega))) (UB H2) ⟨W.heap.size, zW, UB KX, rfl⟩
 case body =>
  rintro lr pre x a' W hl ⟨⟨vr, kZ, hrow, hoN, kR, hz3⟩, hB⟩ ⟨Bx, hBx, kX, rfl⟩ hlt
  have hsem := Oper.semAt_some lr
  obtain ⟨⟨⟨vn, vt, vx, vi⟩, r⟩, hRR⟩ := x
  have hR := hRR.1
  have hS := hRR.2
  dsimp only at hR hS hRR
  obtain ⟨na, nc, rfl, _⟩ := hR.name.form
  obtain ⟨ta, tc, rfl, _⟩ := hR.to.form
  obtain ⟨xa, xc, rfl, _⟩ := hR.text.form
  obtain ⟨ia, ic, rfl, _⟩ := hR.nums.form
  obtain ⟨ra, rc, rfl, _⟩ := hrow.form
  have hpl : (pre.map (·.1.2)).length = pre.length := List.length_map _
  rw [hpl] at kZ hrow
  replace kX : W.heap[Bx]? = some (.cells #[.slice na r.name.length nc, .int .i64 r.type, .int .i64 r.ttl, .int .i64 r.addr, .slice ta r.to.length tc, .slice xa r.text.length xc, .slice ia r.nums.length ic] 39) := kX
  have hlp : pre.length ≤ 999999 := by omega
  have bd := UX (w := W)
  have KZ := UC (UE bd kZ)
  have KX := UC (UE bd kX)
  have KRR := UC (UE bd kR)
  have ROW := UC (hrow.below bd)
  have OO := UC (hoN.below bd)
  have BB := UC (UG hB bd)
  have zB := hB.size
  have zW := VC kZ
  have HR := UC (hR.below (UG (UG hw0 hB) bd))
  have HSS := UC hS
  have zd := bd.size
  have BD := UC bd
  have hW0s := hw0.size
  clear kZ kX kR hrow hoN hB hR hS bd kz kr ON hB0
  unfold E2
  dsimp only
  gi_wp2
  refine Fd (by rintro ⟨a', w', hq⟩; exact hq) (by kernel_rfl) (by kernel_rfl) ?_
  show wpAny _ _ _ _ _ _ _ W.drew
  generalize W.drew = Wd at *
  have cZ : Wd.cell? ⟨w1.heap.size, 1, none⟩ = some (.slice ra pre.length rc) := VE (UB KZ) 1
  obtain ⟨d0, d1, d2, d3, d4, d5, d6⟩ := UJ (UB KX)
  refine wpAny_take (i := 0) (oi := ⟨some 12, Op.fieldAddr 28 (.tmp 5) 1, 0, "l05_zone.go:154", #[], none⟩) (v := .pointer (some ⟨w1.heap.size, 1, none⟩)) rfl (by kernel_rfl) (by kernel_rfl) (by kernel_rfl) (fun _ _ _ h => h) (Or.inl ⟨by rfl, fun w => by go_simp⟩) ?_
  try simp only [Act.put, List.setIfInBounds_toArray, List.set_cons_zero, List.set_cons_succ]
  refine Fm (i := 1) (oi := ⟨some 13, Op.load 26 (.tmp 12), 26, "l05_zone.go:154", #[⟨0, .data⟩], none⟩) (v := .slice ra pre.length rc) (fun w' => w'.cell? ⟨w1.heap.size, 1, none⟩ = some (.slice ra pre.length rc)) rfl (by kernel_rfl) (by kernel_rfl) (by kernel_rfl) (fun _ _ _ h => h) (Or.inl ⟨by rfl, fun w' hw' => by go_simp⟩) cZ ?_
  try simp only [Act.put, List.setIfInBounds_toArray, List.set_cons_zero, List.set_cons_succ]
  refine Al (js := [2]) (by kernel_rfl) (by simp) (AllT.cons (o := ⟨some 14, Op.load 39 (.tmp 6), 39, "l05_zone.go:154", #[], none⟩) rfl (fun K hK => ?_) AllT.nil)
  have HK := UC hK
  clear hK
  go_simp
  refine UB HK _ _ cZ ?_
  clear HK K d0 d1 d2 d3 d4 d5 d6
  try simp only [Act.put, List.setIfInBounds_toArray, List.set_cons_zero, List.set_cons_succ]
  refine Al (js := [3]) (by kernel_rfl) (by simp) (AllT.cons (o := ⟨some 15, Op.call { callee := Callee.value (Operand.func 58), args := #[Operand.tmp 14], argTypes := #[39] }, 39, "l05_zone.go:154", #[⟨2, .data⟩], none⟩) rfl (fun K hK => ?_) AllT.nil)
  have HK := UC hK
  clear hK
  go_simp
  refine (G5 (UB HR) (UB HSS)).mono ?_
  rintro e w2 ⟨un, ut, ux, ui, rfl, oR, b2⟩
  obtain ⟨pa, pc, rfl, _⟩ := oR.hasR.name.form
  obtain ⟨qa, qc, rfl, _⟩ := oR.hasR.to.form
  obtain ⟨ya, yc, rfl, _⟩ := oR.hasR.text.form
  obtain ⟨za, zc, rfl, _⟩ := oR.hasR.nums.form
  have OR := UC oR
  have B2 := UC b2
  have z2 := b2.size
  have cZ2 : w2.cell? ⟨w1.heap.size, 1, none⟩ = some (.slice ra pre.length rc) := VE (UE b2 (UB KZ)) 1
  clear oR b2
  go_simp
  refine UB HK _ _ cZ2 ?_
  clear HK K cZ cZ2
  try simp only [Act.put, List.setIfInBounds_toArray, List.set_cons_zero, List.set_cons_succ]
  have b3 := UI (w := w2) (.cells #[.slice pa r.name.length pc, .int .i64 r.type, .int .i64 r.ttl, .int .i64 r.addr, .slice qa r.to.length qc, .slice ya r.text.length yc, .slice za r.nums.length zc] 39)
  have g3 := heap_alloc_new w2 (.cells #[.slice pa r.name.length pc, .int .i64 r.type, .int .i64 r.ttl, .int .i64 r.addr, .slice qa r.to.length qc, .slice ya r.text.length yc, .slice za r.nums.length zc] 39)
  have k3 := UE b3 (UE (UB B2) (UB KZ))
  have row3 := ((UB ROW).below (UB B2)).below b3
  have OR3 := UC ((UB OR).below b3)
  have on3 := ((UB OO).below (UB B2)).below b3
  have kr3 := UE b3 (UE (UB B2) (UB KRR))
  have bb3 := UG (UG (UB BB) (UB B2)) b3
  have z3 := b3.size
  have B3 := UC b3
  have G3 := UC g3
  have K3 := UC k3
  have ROW3 := UC row3
  have ON3 := UC on3
  have KR3 := UC kr3
  have BB3 := UC bb3
  have cZ3 : (w2.alloc (.cells #[.slice pa r.name.length pc, .int .i64 r.type, .int .i64 r.ttl, .int .i64 r.addr, .slice qa r.to.length qc, .slice ya r.text.length yc, .slice za r.nums.length zc] 39)).cell? ⟨w1.heap.size, 1, none⟩ = some (.slice ra pre.length rc) := VE k3 1
  clear b3 g3 k3 row3 on3 kr3 bb3 ROW OO KRR KX HR HSS OR
  refine Al (js := [4]) (by kernel_rfl) (by simp) (AllT.cons (o := ⟨some 16, Op.buildSlice 26 1 #[(0, Operand.tmp 15)], 26, "l05_zone.go:154", #[⟨3, .data⟩], none⟩) rfl (fun K hK => ?_) AllT.nil)
  have HK := UC hK
  clear hK
  go_simp
  refine UB HK _ _ cZ3 ?_
  clear HK K cZ3
  try simp only [Act.put, List.setIfInBounds_toArray, List.set_cons_zero, List.set_cons_succ]
  generalize w2.alloc (.cells #[.slice pa r.name.length pc, .int .i64 r.type, .int .i64 r.ttl, .int .i64 r.addr, .slice qa r.to.length qc, .slice ya r.text.length yc, .slice za r.nums.length zc] 39) = w3 at *
  refine AnyT.over _ _ _ _ (by kernel_rfl) ?_
  refine wpAny_ready (rs := [5]) (by kernel_rfl) (by simp) (AllReady.cons (o := ⟨some 17, Op.call { callee := Callee.builtin Builtin.append, args := #[Operand.tmp 13, Operand.tmp 16], argTypes := #[26, 26] }, 26, "l05_zone.go:154", #[⟨1, .data⟩, ⟨4, .data⟩, ⟨3, .chain⟩], none⟩) rfl (fun K hK => ?_) AllReady.nil)
  have HK := UC hK
  clear hK
  obtain ⟨xs3, f3, g3, hx3, hq3, hh3⟩ := UB ROW3
  rw [hpl] at hx3
  refine Lo rfl (.tmp 13) (.tmp 16) 26 39 rfl Tryz.underlying26 _ J8 rfl (w1.heap.size + 1) (.slice ra pre.length rc) pre.length (by simp [Act.eval]) w2.heap.size [.slice pa r.name.length pc, .int .i64 r.type, .int .i64 r.ttl, .int .i64 r.addr, .slice qa r.to.length qc, .slice ya r.text.length yc, .slice za r.nums.length zc] (by simp [Act.eval]) ⟨xs3, hx3⟩ (UB G3) rfl (by simp [Value.oneCell']) (by omega) (by omega) ?_
  intro v4 w4 ho4 g4 hw4
  have row4 := RowO.snoc (UB ROW3) (C := Wd.heap.size) (D := w2.heap.size) zd z3 (UB OR3) (by omega) g4 hw4 (by rw [hpl]; exact ho4)
  have u4 : Aq (w1.heap.size + 1) w3.heap.size w3 w4 := Cm g4 (fun k hk => World.ownsRow.lt hx3 k hk)
  have k4 := Ab g4 (UB K3) (Dh hx3 (UB K3) (by decide))
  have kf := Fh (B := W0.heap.size) (j := 1) (v4 := v4) (UB BD) (UB B2) (UB B3) g4 (fun k o h1 h2 => Gs hx3 h1 h2) k4
  have on4 := (UB ON3).outside u4 (.inl (by omega))
  have kr4 := u4.kept (UB KR3) (by omega)
  have u5 := UT w4 w1.heap.size 1 v4
  have z4 := u4.size
  have z5 := u5.size
  have bel : Below w0.heap.size W (w4.setCell ⟨w1.heap.size, 1, none⟩ v4) := u5.belowAt (u4.belowAt (((UB BD).mono (by omega)).trans (((UB B2).mono (by omega)).trans ((UB B3).mono (by omega)))) (by omega) (by omega)) (by omega) (by omega)
  have bb5 : Below w.heap.size w (w4.setCell ⟨w1.heap.size, 1, none⟩ v4) := u5.below (u4.below (UB BB3) (by omega)) (by omega)
  have FIN : Hid (GotZ w w1.heap.size (.slice p1 o.length q1) o w0 (pre ++ [⟨((.slice na r.name.length nc, .slice ta r.to.length tc, .slice xa r.text.length xc, .slice ia r.nums.length ic), r), hRR⟩]) (w4.setCell ⟨w1.heap.size, 1, none⟩ v4)) := ⟨⟨v4, UV k4 1 v4, by rw [List.map_append]; exact (row4.outside u5 (.inr (Nat.le_refl _))).wide (Nat.le_refl _) z5, on4.outside u5 (.inl (Nat.le_refl _)), u5.kept kr4 (by omega), hz3⟩, bb5⟩
  have KF := UC kf
  have KPZ : Hid (KpZ w0.heap.size lr W (w4.setCell ⟨w1.heap.size, 1, none⟩ v4)) := by
   refine ⟨bel, fun g o' q e' _ => ?_⟩
   have q3 := UE (UB B3) (UE (UB B2) (UE (UB BD) q))
   have q4 := Ab g4 q3 (Xt hx3 q3 e')
   refine Ab (Aa w4 ⟨w1.heap.size, 1, none⟩ v4) q4 ?_
   intro e
   simp only [Option.some.injEq] at e
   rw [← e, k4] at q4
   cases q4
   cases e'
  have c4 := VE k4 1
  have f4 := VG k4 1
  simp only [List.getElem?_toArray, List.getElem?_cons_zero, List.getElem?_cons_succ] at c4
  obtain ⟨v4a, v4c, hv4, _⟩ := row4.form
  rw [List.length_append, hpl] at hv4
  replace hv4 : v4 = .slice v4a (pre.length + 1) v4c := hv4
  subst hv4
  clear row4 u4 k4 kf on4 kr4 u5 bel bb5 ho4 g4 hw4 hx3 hq3 hh3 ROW3 OR3 ON3 KR3 BB3 G3 K3 B2 B3 BD BB
  refine UB HK _ _ ?_
  clear HK K
  try simp only [Act.put, List.setIfInBounds_toArray, List.set_cons_zero, List.set_cons_succ]
  refine wpAny_take (i := 6) (oi := ⟨some 18, Op.fieldAddr 28 (.tmp 5) 1, 0, "l05_zone.go:154", #[⟨0, .phase⟩, ⟨1, .phase⟩, ⟨2, .phase⟩, ⟨3, .phase⟩, ⟨4, .phase⟩, ⟨5, .phase⟩], none⟩) (v := .pointer (some ⟨w1.heap.size, 1, none⟩)) rfl (by kernel_rfl) (by kernel_rfl) (by kernel_rfl) (fun _ _ _ h => h) (Or.inl ⟨by rfl, fun w => by go_simp⟩) ?_
  try simp only [Act.put, List.setIfInBounds_toArray, List.set_cons_zero, List.set_cons_succ]
  refine wpAny_ready (rs := [7]) (by kernel_rfl) (by simp) (AllReady.cons (o := ⟨none, Op.store 26 (.tmp 18) (.tmp 17), 0, "l05_zone.go:154", #[⟨6, .data⟩, ⟨5, .data⟩, ⟨5, .chain⟩, ⟨0, .phase⟩, ⟨1, .phase⟩, ⟨2, .phase⟩, ⟨3, .phase⟩, ⟨4, .phase⟩, ⟨5, .phase⟩], none⟩) rfl (fun K hK => ?_) AllReady.nil)
  have HK := UC hK
  clear hK
  go_simp
  refine UB HK _ _ ?_
  clear HK K
  refine wpAny_done (by kernel_rfl) ?_ _
  exact ⟨UB KF, UB KPZ, UB FIN⟩
 case done =>
  rintro D xs W hD hS ⟨⟨vr, kZ, hrow, hoN, kR, hz3⟩, hB⟩ hK
  rw [hS] at hrow
  obtain ⟨ra, rc, rfl, _⟩ := hrow.form
  obtain ⟨e0, e1⟩ : W.cell? ⟨w1.heap.size, 0, none⟩ = some (.slice p1 o.length q1) ∧ W.cell? ⟨w1.heap.size, 1, none⟩ = some (.slice ra rs.length rc) := ⟨VE kZ 0, VE kZ 1⟩
  obtain ⟨g0, g1⟩ : W.cell? ⟨w.heap.size + 1, 0, none⟩ = some (.slice none 0 0) ∧ W.cell? ⟨w.heap.size + 1, 1, none⟩ = some (.slice none 0 0) := ⟨VE kR 0, VE kR 1⟩
  have h0 := VG kR 0
  have h1 := VG kR 1
  have KRR := UC kR
  have ROW := UC hrow
  have OO := UC hoN
  have BB := UC hB
  have HKK := UC hK
  have zW := VC kZ
  have zD := VC hK
  clear kZ kR hrow hoN hB hK kz kr ON
  gi_wp2
  have kf : ((W.setCell ⟨w.heap.size + 1, 0, none⟩ (.slice p1 o.length q1)).setCell ⟨w.heap.size + 1, 1, none⟩ (.slice ra rs.length rc)).heap[w.heap.size + 1]? = some (.cells #[.slice p1 o.length q1, .slice ra rs.length rc] 28) := UV (UV (UB KRR) 0 _) 1 _
  have u5 := (UT W (w.heap.size + 1) 0 (.slice p1 o.length q1)).trans (UT _ (w.heap.size + 1) 1 (.slice ra rs.length rc))
  have sD := ((KeepsOthers.setCell W ⟨w.heap.size + 1, 0, none⟩ (.slice p1 o.length q1)).trans (KeepsOthers.setCell _ ⟨w.heap.size + 1, 1, none⟩ (.slice ra rs.length rc))).same D _ (UB HKK) rfl
  have row5 := (UB ROW).outside u5 (.inr (by omega))
  have on5 := (UB OO).outside u5 (.inr (by omega))
  have bb5 := u5.below (UB BB) (by omega)
  have z5 := u5.size
  generalize (W.setCell ⟨w.heap.size + 1, 0, none⟩ (.slice p1 o.length q1)).setCell ⟨w.heap.size + 1, 1, none⟩ (.slice ra rs.length rc) = w5 at *
  refine ⟨by simp, .inl ⟨_, _, rfl, run_takeDeferred sD, ?_⟩⟩
  have hkk := Da (grownBy_putObj' w5 D (.deferred none)) (fun r e => by cases e; exact ⟨_, sD, rfl⟩)
  have zp := (grownBy_putObj' w5 D (.deferred none)).size
  exact ⟨_, results_cell_row rfl _ _ (w.heap.size + 1) 28 #[.slice p1 o.length q1, .slice ra rs.length rc] (0, 0) _ rfl (hkk _ _ _ kf) Tryz.underlying28 rfl (by kernel_rfl), _, _, rfl, ⟨w1.heap.size, by omega, by omega, (on5.keptC hkk).wide (by omega) (Nat.le_refl _), (row5.keptC hkk).wide (by omega) (by omega)⟩, bb5.trans (belowK_b (w := w) (Nat.le_refl _) w5 D _ _ (by omega) sD rfl rfl)⟩
theorem Tz {w : World} {n0 b : Nat} {B : Bk} {vo : Value} {o : List (List Int)} (hB : Ch n0 w b B) (ho : HasL w vo o) (hok : Af o = true) (hl : B.length ≤ 1000) (hsh : ∀ q ∈ B, Jy q.2) (hlen : (Gl B).length ≤ 1000) :
  Calls Tryz.prog 27 #[.agg #[vo], .func (.func 62) #[] #[.pointer (some ⟨w.heap.size, 0, none⟩)]] (w.alloc (.cells #[.map (some b)] 52)) fun e w' => ∃ uo ur, e = .returned (.agg #[uo, ur]) ∧ OwnZ w.heap.size w'.heap.size w' uo ur o (Gl B) ∧ Below w.heap.size w w' := by
 have ba := UI (w := w) (.cells #[.map (some b)] 52)
 have ka := heap_alloc_new w (.cells #[.map (some b)] 52)
 have zs : (w.alloc (.cells #[.map (some b)] 52)).heap.size = w.heap.size + 1 := World.size_alloc w _
 have hp := An hok
 refine (callsIn_wide.1 (Um ba (ho.below ba) hp.1 (fun k hk => (Cf (hp.2 k hk)).2) hlen (enters_of Tryz.func62 (by kernel_rfl) rfl) (Tv w.heap.size w _ b n0 B hB hl hsh ba ka))).mono ?_
 rintro e w' ⟨uo, ur, rfl, ⟨s, h1, h2, h3, h4⟩, hb⟩
 rw [zs] at h1 h3
 exact ⟨uo, ur, rfl, ⟨s, by omega, h2, h3.wide (by omega) (Nat.le_refl _), h4⟩, ba.trans (hb.mono (by omega))⟩
end Go.Proofs.YthobpbnaklnbiaaGreat

namespace Go.Proofs.YthobpbnaklnbiaaGreat
open Go.RowKit Go.Shelf
set_option linter.unusedVariables false

theorem Lx (B E : Nat) (el eb : TypeId) (w : World) : OwnN B E el eb w (.slice none 0 0) [] := ⟨[], World.ownsRow_nil _ _ _ _, (fun i hi => absurd hi (by simp)), by simp, (fun q hq => by cases hq), by simp⟩
theorem Zi {w : World} {g Z : Nat} {ob : Obj} {u v : Value} (h : w.heap[g]? = some ob) (hne : g ≠ Z) : ((w.setCell ⟨Z, 0, none⟩ u).setCell ⟨Z, 1, none⟩ v).heap[g]? = some ob :=
 Ab (Aa _ ⟨Z, 1, none⟩ v) (Ab (Aa w ⟨Z, 0, none⟩ u) h (fun e => hne (by simpa using e.symm))) (fun e => hne (by simpa using e.symm))
theorem Zc (rs : List Rec) : Ei rs = Cp rs := rfl
theorem Wk {B : Bk} (hg : Ci B) {m : Nat} (hm : D9 m B) (h : m ≤ 1000) : B.length ≤ 1000 ∧ ∀ q ∈ B, Jy q.2 := ⟨Nat.le_trans hm.1 h, fun q hq => ⟨Nat.le_trans (hm.2 q hq) h, U8 hg q hq⟩⟩
end Go.Proofs.YthobpbnaklnbiaaGreat

namespace Go.Proofs.YthobpbnaklnbiaaGreat
open Go.RowKit Go.Shelf
set_option linter.unusedVariables false

theorem Yu {n0 b : Nat} {v : Value} {o n : List (List Int)} {rs : List Rec} (t : Int) {w : World} (hB : Ch n0 w b (Ei rs)) (hz : Ak o rs = true) (hnm : Af n = true) (hn : HasL w v n) :
  Calls Tryz.prog 25 #[.map (some b), .agg #[v], .int .i64 t] w fun e w' => ∃ u, e = .returned u ∧ RowO w.heap.size w'.heap.size 39 22 5 3 w' u (selK n t rs rs.length) ∧ Below w.heap.size w w' := by
 have hpg := Dp hz hnm
 have hsh := Kf (n := n) hz
 have hset := Rq hz hnm t
 refine ((callsIn_wide (n := 7)).1 (Yd t hB hn (Ce hnm) (by unfold Ei; rw [hpg]; exact hsh.1) (by unfold Ei; rw [hpg]; exact hsh.2))).mono ?_
 rintro e w' ⟨u, rfl, h, hb⟩
 unfold Ei at h
 rw [hpg, hset] at h
 exact ⟨u, rfl, h, hb⟩
end Go.Proofs.YthobpbnaklnbiaaGreat

namespace Go.Proofs.YthobpbnaklnbiaaGreat
open Go.RowKit
set_option linter.unusedVariables false

set_option maxHeartbeats 1000000 in
set_option maxRecDepth 100000 in
theorem L8 (t : Int) (w : World) : Calls Tryz.prog 23 #[.int .i64 t] w fun e w' => e = .returned (.bool (Hj t)) ∧ w = w' := by
 have HT := A8 t w
 unfold Hj
 cases ht : Aw t with
 | true =>
  rw [ht] at HT
  replace HT := UC HT
  rw [Bool.true_or]
  go_enter Tryz.func23, Tryz.ntmps23
  go_wp2_with fail
  refine (UB HT).mono ?_
  rintro e w1 ⟨rfl, rfl⟩
  go_wp2_with fail
  go_ret
  exact ⟨rfl, rfl⟩
 | false =>
  rw [ht] at HT
  replace HT := UC HT
  rw [Bool.false_or]
  by_cases h5 : t = 255
  ·rw [decide_eq_true h5]
   have h5' : (t == 255) = true := by rw [beq_iff_eq]; exact h5
   clear ht h5
   go_enter Tryz.func23, Tryz.ntmps23
   go_wp2_with fail
   refine (UB HT).mono ?_
   rintro e w1 ⟨rfl, rfl⟩
   go_wp2_with fail
   go_ret
   exact ⟨rfl, rfl⟩
  ·rw [decide_eq_false h5]
   have h5' : (t == 255) = false := by rw [beq_eq_false_iff_ne]; exact h5
   clear ht h5
   go_enter Tryz.func23, Tryz.ntmps23
   go_wp2_with fail
   refine (UB HT).mono ?_
   rintro e w1 ⟨rfl, rfl⟩
   go_wp2_with fail
   go_ret
   exact ⟨rfl, rfl⟩

end Go.Proofs.YthobpbnaklnbiaaGreat
