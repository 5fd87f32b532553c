/-
  Contracts of the program's zoneOf, over whatever iterator of records, and copyZone. A region that draws its order, one way through it: what only looks is taken in the order of its number, whether its guard wants it or not. Contract of the program's copyZone: a zone of its own with the same name and records.
-/
import Derived.Test.YtfgcmjpkgdjcfaaGreatHouseNewG13
import Derived.Test.YtfgcmjpkgdjcfaaGreatHouseNewG04
import Derived.Test.YtfgcmjpkgdjcfaaGreatHouseNewG14
import Derived.Test.YtfgcmjpkgdjcfaaGreatHouseNewG16
import Derived.RangeFuncBox
import Derived.Test.YtfgcmjpkgdjcfaaGreatHouseNewG02
import Derived.Deep.RegionHeld3
namespace Go.Proofs.YtfgcmjpkgdjcfaaGreat
open Go.RowKit Go.Shelf
set_option linter.unusedVariables false

theorem info_rrZ : (Tryz.prog.info? 59).map (fun i => (i.zero, i.size, i.bytes)) = some (some (.agg #[.slice none 0 0, .int .i64 0, .int .i64 0, .int .i64 0, .slice none 0 0, .slice none 0 0, .slice none 0 0]), 7, 120) := by kernel_rfl
def cellsV {w : World} (x : RecV w) : Array Value := #[x.1.1.1, .int .i64 x.1.2.type, .int .i64 x.1.2.ttl, .int .i64 x.1.2.addr, x.1.1.2.1, x.1.1.2.2.1, x.1.1.2.2.2]
/-- What stands between two rounds. -/
def GotZ (w : World) (Z : Nat) (vo : Value) (o : List (List Int)) (w0 : World) (pre : List (RecV w0)) (W : World) : Prop :=
 (∃ vr, W.heap[Z]? = some (.cells #[vo, vr] 33) ∧ RowO (Z + 1) W.heap.size 59 56 5 3 W vr (pre.map (·.1.2)) ∧ OwnN (w.heap.size + 2) Z 56 5 W vo o ∧ W.heap[w.heap.size + 1]? = some (.cells #[.slice none 0 0, .slice none 0 0] 33) ∧ w.heap.size + 2 ≤ Z) ∧ Below w.heap.size w W
theorem gotZ_own (w : World) (Z : Nat) (vo : Value) (o : List (List Int)) (w0 : World) (B : Nat) (hB : w.heap.size ≤ B) : OwnFrom B (GotZ w Z vo o w0) := by
 intro s W W' row ⟨⟨vr, h1, h2, h3, h4, h5⟩, hb⟩ hg hr
 have hk := keptC_of hg (fun r e => (hr r e).2)
 exact ⟨⟨vr, hk _ _ _ h1, (h2.keptC hk).wide (Nat.le_refl _) hg.size, h3.keptC hk, hk _ _ _ h4, h5⟩, hb.grown hg hb.size (fun k e => by have := (hr k e).1; omega)⟩
theorem keepsFrom_of {B Z : Nat} {W Wd w2 w3 w4 : World} {v4 : Value} {row : Option Nat} {c : Array Value} {t : TypeId} {j : Nat} (h1 : Below W.heap.size W Wd) (h2 : Below Wd.heap.size Wd w2) (h3 : Below w2.heap.size w2 w3) (h4 : w3.grownBy w4 row) (hr : ∀ k o, w3.heap[k]? = some o → o.isCells = false → row ≠ some k) (hZ : w4.heap[Z]? = some (.cells c t)) : KeepsFrom B W (w4.setCell ⟨Z, j, none⟩ v4) := by
 have zs := (grown_setCell w4 ⟨Z, j, none⟩ v4).size
 have z1 := h1.size
 have z2 := h2.size
 have z3 := h3.size
 have z4 := h4.size
 refine ⟨by omega, fun k o hB hk ho => ?_⟩
 have q3 := block_kept h3 (block_kept h2 (block_kept h1 hk))
 have q4 := block_grown h4 q3 (hr k o q3 ho)
 refine block_grown (grown_setCell w4 ⟨Z, j, none⟩ v4) q4 ?_
 intro e
 simp only [Option.some.injEq] at e
 subst e
 rw [hZ] at q4
 cases q4
 cases ho

set_option maxHeartbeats 8000000 in
set_option maxRecDepth 100000 in
theorem zoneOf_in {w0 w : World} (hw0 : Below w0.heap.size w0 w) {vo : Value} {o : List (List Int)} (ho : HasL w vo o) (ho1 : o.length ≤ 6) (ho2 : ∀ k, k < o.length → (o.getD k []).length ≤ 15) {rs : List Rec} (hlen : rs.length ≤ 1000) {gf : Nat} {lb : Array Value}
  (eg : ∀ args w, (callFunc gf args).run Tryz.prog w = .ok (.enter gf args) w)
  (hseq : SeqStopsK Fence.wide 4 Tryz.prog gf lb (fun x : RecV w0 => encV x) (Below w0.heap.size) (fun xs => xs.map (·.1.2) = rs) (fun _ => True) rs.length w) :
  CallsIn Fence.wide 5 Tryz.prog 36 #[.agg #[vo], .func (.func gf) #[] lb] w fun e w' => ∃ uo ur, e = .returned (.agg #[uo, ur]) ∧ OwnZ w.heap.size w'.heap.size w' uo ur o rs ∧ Below w.heap.size w w' := by
 obtain ⟨oa, oc, rfl, _⟩ := ho.form
 obtain ⟨hsz, k0, r0⟩ := box2 w (.cells #[.slice oa o.length oc] 30) #[.slice none 0 0, .slice none 0 0] 33
 have b0 := below2 w (.cells #[.slice oa o.length oc] 30) (.cells #[.slice none 0 0, .slice none 0 0] 33)
 have HC := hide (copyName_has (ho.below b0) ho1 ho2)
 have KR := hide r0
 have zz := block_lt r0
 have c0 := block_one k0
 clear hsz k0 r0 ho ho1 ho2
 refine callsIn_of_wp_marks Tryz.func36 rfl trivial ?_ rfl
 simp only [Tryz.ntmps36, List.size_toArray, List.length_cons, List.length_nil, Nat.reduceAdd, Nat.reduceSub, Array.replicate_succ, Array.replicate_zero, List.push_toArray, List.append_toArray, List.nil_append, List.cons_append]
 gi_wp2_with (refine ⟨trivial, ?_⟩; gi_at_call 75; refine (callsIn_wide.2 (unhide HC)).mono ?_; rintro e w1 ⟨v1, rfl, o1, b1⟩; obtain ⟨p1, q1, rfl, _⟩ := o1.hasL.form)
 have bz := below_alloc (w := w1) (.cells #[.slice p1 o.length q1, .slice none 0 0] 33)
 have kz := heap_alloc_new w1 (.cells #[.slice p1 o.length q1, .slice none 0 0] 33)
 have kr := block_kept bz (block_kept b1 (unhide KR))
 have hB0 := below_next (below_next b0 b1) bz
 have ON := (o1.here.wide (C' := w.heap.size + 2) (E' := w1.heap.size) (by omega) (Nat.le_refl _)).below bz
 have z1 := b1.size
 have zk := block_lt kz
 have hz2 : w.heap.size + 2 ≤ w1.heap.size := by omega
 clear HC KR b0 b1 o1 c0 bz
 generalize hW0 : w1.alloc (.cells #[.slice p1 o.length q1, .slice none 0 0] 33) = W0 at *
 clear hW0
 refine wpIn_rangeFunc_ownH rfl (by omega) (gf := gf) (lb := lb) rfl trivial eg hseq (fun h k => h.trans k) (belowK_b (Nat.le_trans hw0.size hB0.size)) hB0 (fun _ => rfl)
  (GotZ w w1.heap.size (.slice p1 o.length q1) o w0) (fun _ _ _ => False) (gotZ_own w w1.heap.size _ o w0 _ hB0.size) (fun _ _ _ _ _ h _ _ => h)
  ⟨⟨.slice none 0 0, kz, RowO.nil _ _ _ _ _ _ _, ON, kr, hz2⟩, hB0⟩
  (fun x a' W => ∃ Bx, w1.heap.size < Bx ∧ W.heap[Bx]? = some (.cells (cellsV x) 59) ∧ a' = { tmps := #[.agg #[.slice oa o.length oc], .func (.func gf) #[] lb, .pointer (some ⟨w.heap.size, 0, none⟩), undef, .pointer (some ⟨w.heap.size + 1, 0, none⟩), .pointer (some ⟨w1.heap.size, 0, none⟩), .pointer (some ⟨Bx, 0, none⟩), .agg #[.slice oa o.length oc], .agg #[.slice p1 o.length q1], .agg #[.slice p1 o.length q1, .slice none 0 0], .func (.func gf) #[] lb, .agg (cellsV x), undef, undef, undef, undef, undef, undef, undef, undef], defers := [] })
  (fun x a' _ W W' row ⟨Bx, q1, q2, q3⟩ hg hr => ⟨Bx, q1, keptC_of hg (fun r e => (hr r e).2) _ _ _ q2, q3⟩) ?assign ?body ?done ?stop
 case assign =>
  rintro lr pre x W K hi hK
  have hsem := Oper.semAt_some lr
  obtain ⟨⟨⟨vn, vt, vx, vi⟩, r⟩, hRR⟩ := x
  have hR := hRR.1
  have hS := hRR.2
  dsimp only at hR hS hRR
  obtain ⟨na, nc, rfl, _⟩ := hR.name.form
  obtain ⟨ta, tc, rfl, _⟩ := hR.to.form
  obtain ⟨xa, xc, rfl, _⟩ := hR.text.form
  obtain ⟨ia, ic, rfl, _⟩ := hR.nums.form
  have zW := block_lt hi.1.choose_spec.1
  have ba := below_alloc (w := W) (.cells #[.slice na r.name.length nc, .int .i64 r.type, .int .i64 r.ttl, .int .i64 r.addr, .slice ta r.to.length tc, .slice xa r.text.length xc, .slice ia r.nums.length ic] 59)
  have hi2 := gotZ_own w w1.heap.size _ o w0 w.heap.size (Nat.le_refl _) pre W _ none hi (World.grownBy_alloc W (.cells #[.slice na r.name.length nc, .int .i64 r.type, .int .i64 r.ttl, .int .i64 r.addr, .slice ta r.to.length tc, .slice xa r.text.length xc, .slice ia r.nums.length ic] 59) none) (fun r e => by cases e)
  have kx := heap_alloc_new W (.cells #[.slice na r.name.length nc, .int .i64 r.type, .int .i64 r.ttl, .int .i64 r.addr, .slice ta r.to.length tc, .slice xa r.text.length xc, .slice ia r.nums.length ic] 59)
  have HK := hide hK
  have H2 := hide hi2
  have KX := hide kx
  have BA := hide ba
  clear hK hi2 kx ba hi
  unfold encV
  gi_wp2
  exact unhide HK _ _ ((KeepsOthers.alloc _ _).from _) ((unhide BA).mono (Nat.le_trans hw0.size (by omega))) (unhide H2) ⟨W.heap.size, zW, unhide KX, rfl⟩
 case body =>
  rintro lr pre x a' W hl ⟨rr, hrr⟩ ⟨⟨vr, kZ, hrow, hoN, kR, hz3⟩, hB⟩ ⟨Bx, hBx, kX, rfl⟩ hlt
  have hsem := Oper.semAt_some lr
  obtain ⟨⟨⟨vn, vt, vx, vi⟩, r⟩, hRR⟩ := x
  have hR := hRR.1
  have hS := hRR.2
  dsimp only at hR hS hRR
  obtain ⟨na, nc, rfl, _⟩ := hR.name.form
  obtain ⟨ta, tc, rfl, _⟩ := hR.to.form
  obtain ⟨xa, xc, rfl, _⟩ := hR.text.form
  obtain ⟨ia, ic, rfl, _⟩ := hR.nums.form
  obtain ⟨ra, rc, rfl, _⟩ := hrow.form
  have hpl : (pre.map (·.1.2)).length = pre.length := List.length_map _
  rw [hpl] at kZ hrow
  replace kX : W.heap[Bx]? = some (.cells #[.slice na r.name.length nc, .int .i64 r.type, .int .i64 r.ttl, .int .i64 r.addr, .slice ta r.to.length tc, .slice xa r.text.length xc, .slice ia r.nums.length ic] 59) := kX
  have hlp : pre.length ≤ 1000 := by omega
  have bd := below_drew (w := W)
  have KZ := hide (block_kept bd kZ)
  have KX := hide (block_kept bd kX)
  have KRR := hide (block_kept bd kR)
  have ROW := hide (hrow.below bd)
  have OO := hide (hoN.below bd)
  have BB := hide (below_next hB bd)
  have zB := hB.size
  have zW := block_lt kZ
  have HR := hide (hR.below (below_next (below_next hw0 hB) bd))
  have HSS := hide hS
  have zd := bd.size
  have BD := hide bd
  have hW0s := hw0.size
  clear kZ kX kR hrow hoN hB hR hS bd kz kr ON hB0 hrr
  unfold cellsV
  dsimp only
  gi_wp2
  refine regionIn_any (by rintro ⟨a', w', hq⟩; exact hq) (by kernel_rfl) (by kernel_rfl) ?_
  show wpAny _ _ _ _ _ _ _ W.drew
  generalize W.drew = Wd at *
  have cZ : Wd.cell? ⟨w1.heap.size, 1, none⟩ = some (.slice ra pre.length rc) := block_cell (unhide KZ) 1
  obtain ⟨d0, d1, d2, d3, d4, d5, d6⟩ := cells7 (unhide KX)
  refine wpAny_take (i := 0) (oi := ⟨some 12, Op.fieldAddr 33 (.tmp 5) 1, 0, "l05_zone.go:154", #[], none⟩) (v := .pointer (some ⟨w1.heap.size, 1, none⟩)) rfl (by kernel_rfl) (by kernel_rfl) (by kernel_rfl) (fun _ _ _ h => h) (Or.inl ⟨by rfl, fun w => by go_simp⟩) ?_
  try simp only [Act.put, List.setIfInBounds_toArray, List.set_cons_zero, List.set_cons_succ]
  refine any_takeT (i := 1) (oi := ⟨some 13, Op.load 31 (.tmp 12), 31, "l05_zone.go:154", #[⟨0, .data⟩], none⟩) (v := .slice ra pre.length rc) (fun w' => w'.cell? ⟨w1.heap.size, 1, none⟩ = some (.slice ra pre.length rc)) rfl (by kernel_rfl) (by kernel_rfl) (by kernel_rfl) (fun _ _ _ h => h) (Or.inl ⟨by rfl, fun w' hw' => by go_simp⟩) cZ ?_
  try simp only [Act.put, List.setIfInBounds_toArray, List.set_cons_zero, List.set_cons_succ]
  refine anyT_ready (js := [2]) (by kernel_rfl) (by simp) (AllT.cons (o := ⟨some 14, Op.load 59 (.tmp 6), 59, "l05_zone.go:154", #[], none⟩) rfl (fun K hK => ?_) AllT.nil)
  have HK := hide hK
  clear hK
  go_simp
  refine unhide HK _ _ cZ ?_
  clear HK K d0 d1 d2 d3 d4 d5 d6
  try simp only [Act.put, List.setIfInBounds_toArray, List.set_cons_zero, List.set_cons_succ]
  refine anyT_ready (js := [3]) (by kernel_rfl) (by simp) (AllT.cons (o := ⟨some 15, Op.call { callee := Callee.value (Operand.func 72), args := #[Operand.tmp 14], argTypes := #[59] }, 59, "l05_zone.go:154", #[⟨2, .data⟩], none⟩) rfl (fun K hK => ?_) AllT.nil)
  have HK := hide hK
  clear hK
  go_simp
  refine (copyRr_own (unhide HR) (unhide HSS)).mono ?_
  rintro e w2 ⟨un, ut, ux, ui, rfl, oR, b2⟩
  obtain ⟨pa, pc, rfl, _⟩ := oR.hasR.name.form
  obtain ⟨qa, qc, rfl, _⟩ := oR.hasR.to.form
  obtain ⟨ya, yc, rfl, _⟩ := oR.hasR.text.form
  obtain ⟨za, zc, rfl, _⟩ := oR.hasR.nums.form
  have OR := hide oR
  have B2 := hide b2
  have z2 := b2.size
  have cZ2 : w2.cell? ⟨w1.heap.size, 1, none⟩ = some (.slice ra pre.length rc) := block_cell (block_kept b2 (unhide KZ)) 1
  clear oR b2
  go_simp
  refine unhide HK _ _ cZ2 ?_
  clear HK K cZ cZ2
  try simp only [Act.put, List.setIfInBounds_toArray, List.set_cons_zero, List.set_cons_succ]
  have b3 := below_alloc (w := w2) (.cells #[.slice pa r.name.length pc, .int .i64 r.type, .int .i64 r.ttl, .int .i64 r.addr, .slice qa r.to.length qc, .slice ya r.text.length yc, .slice za r.nums.length zc] 59)
  have g3 := heap_alloc_new w2 (.cells #[.slice pa r.name.length pc, .int .i64 r.type, .int .i64 r.ttl, .int .i64 r.addr, .slice qa r.to.length qc, .slice ya r.text.length yc, .slice za r.nums.length zc] 59)
  have k3 := block_kept b3 (block_kept (unhide B2) (unhide KZ))
  have row3 := ((unhide ROW).below (unhide B2)).below b3
  have OR3 := hide ((unhide OR).below b3)
  have on3 := ((unhide OO).below (unhide B2)).below b3
  have kr3 := block_kept b3 (block_kept (unhide B2) (unhide KRR))
  have bb3 := below_next (below_next (unhide BB) (unhide B2)) b3
  have z3 := b3.size
  have B3 := hide b3
  have G3 := hide g3
  have K3 := hide k3
  have ROW3 := hide row3
  have ON3 := hide on3
  have KR3 := hide kr3
  have BB3 := hide bb3
  have cZ3 : (w2.alloc (.cells #[.slice pa r.name.length pc, .int .i64 r.type, .int .i64 r.ttl, .int .i64 r.addr, .slice qa r.to.length qc, .slice ya r.text.length yc, .slice za r.nums.length zc] 59)).cell? ⟨w1.heap.size, 1, none⟩ = some (.slice ra pre.length rc) := block_cell k3 1
  clear b3 g3 k3 row3 on3 kr3 bb3 ROW OO KRR KX HR HSS OR
  refine anyT_ready (js := [4]) (by kernel_rfl) (by simp) (AllT.cons (o := ⟨some 16, Op.buildSlice 31 1 #[(0, Operand.tmp 15)], 31, "l05_zone.go:154", #[⟨3, .data⟩], none⟩) rfl (fun K hK => ?_) AllT.nil)
  have HK := hide hK
  clear hK
  go_simp
  refine unhide HK _ _ cZ3 ?_
  clear HK K cZ3
  try simp only [Act.put, List.setIfInBounds_toArray, List.set_cons_zero, List.set_cons_succ]
  generalize w2.alloc (.cells #[.slice pa r.name.length pc, .int .i64 r.type, .int .i64 r.ttl, .int .i64 r.addr, .slice qa r.to.length qc, .slice ya r.text.length yc, .slice za r.nums.length zc] 59) = w3 at *
  refine AnyT.over _ _ _ _ (by kernel_rfl) ?_
  refine wpAny_ready (rs := [5]) (by kernel_rfl) (by simp) (AllReady.cons (o := ⟨some 17, Op.call { callee := Callee.builtin Builtin.append, args := #[Operand.tmp 13, Operand.tmp 16], argTypes := #[31, 31] }, 31, "l05_zone.go:154", #[⟨1, .data⟩, ⟨4, .data⟩, ⟨3, .chain⟩], none⟩) rfl (fun K hK => ?_) AllReady.nil)
  have HK := hide hK
  clear hK
  obtain ⟨xs3, f3, g3, hx3, hq3, hh3⟩ := unhide ROW3
  rw [hpl] at hx3
  refine step_append_rec rfl (.tmp 13) (.tmp 16) 31 59 rfl Tryz.underlying31 _ info_rrZ rfl (w1.heap.size + 1) (.slice ra pre.length rc) pre.length (by simp [Act.eval]) w2.heap.size [.slice pa r.name.length pc, .int .i64 r.type, .int .i64 r.ttl, .int .i64 r.addr, .slice qa r.to.length qc, .slice ya r.text.length yc, .slice za r.nums.length zc] (by simp [Act.eval]) ⟨xs3, hx3⟩ (unhide G3) rfl (by simp [Value.oneCell']) (by omega) (by omega) ?_
  intro v4 w4 ho4 g4 hw4
  have row4 := RowO.snoc (unhide ROW3) (C := Wd.heap.size) (D := w2.heap.size) zd z3 (unhide OR3) (by omega) g4 hw4 (by rw [hpl]; exact ho4)
  have u4 : Outside (w1.heap.size + 1) w3.heap.size w3 w4 := outside_grown g4 (fun k hk => World.ownsRow.lt hx3 k hk)
  have k4 := block_grown g4 (unhide K3) (row_type hx3 (unhide K3) (by decide))
  have kf := keepsFrom_of (B := W0.heap.size) (j := 1) (v4 := v4) (unhide BD) (unhide B2) (unhide B3) g4 (fun k o h1 h2 => row_notC hx3 h1 h2) k4
  have on4 := (unhide ON3).outside u4 (.inl (by omega))
  have kr4 := u4.kept (unhide KR3) (by omega)
  have u5 := outside_set w4 w1.heap.size 1 v4
  have z4 := u4.size
  have z5 := u5.size
  have bel : Below w0.heap.size W (w4.setCell ⟨w1.heap.size, 1, none⟩ v4) := u5.belowAt (u4.belowAt (((unhide BD).mono (by omega)).trans (((unhide B2).mono (by omega)).trans ((unhide B3).mono (by omega)))) (by omega) (by omega)) (by omega) (by omega)
  have bb5 : Below w.heap.size w (w4.setCell ⟨w1.heap.size, 1, none⟩ v4) := u5.below (u4.below (unhide BB3) (by omega)) (by omega)
  have FIN : Hid (GotZ w w1.heap.size (.slice p1 o.length q1) o w0 (pre ++ [⟨((.slice na r.name.length nc, .slice ta r.to.length tc, .slice xa r.text.length xc, .slice ia r.nums.length ic), r), hRR⟩]) (w4.setCell ⟨w1.heap.size, 1, none⟩ v4)) := ⟨⟨v4, block_setAt k4 1 v4, by rw [List.map_append]; exact (row4.outside u5 (.inr (Nat.le_refl _))).wide (Nat.le_refl _) z5, on4.outside u5 (.inl (Nat.le_refl _)), u5.kept kr4 (by omega), hz3⟩, bb5⟩
  have KF := hide kf
  have BEL := hide bel
  have c4 := block_cell k4 1
  have f4 := block_frozen k4 1
  simp only [List.getElem?_toArray, List.getElem?_cons_zero, List.getElem?_cons_succ] at c4
  obtain ⟨v4a, v4c, hv4, _⟩ := row4.form
  rw [List.length_append, hpl] at hv4
  replace hv4 : v4 = .slice v4a (pre.length + 1) v4c := hv4
  subst hv4
  clear row4 u4 k4 kf on4 kr4 u5 bel bb5 ho4 g4 hw4 hx3 hq3 hh3 ROW3 OR3 ON3 KR3 BB3 G3 K3 B2 B3 BD BB
  refine unhide HK _ _ ?_
  clear HK K
  try simp only [Act.put, List.setIfInBounds_toArray, List.set_cons_zero, List.set_cons_succ]
  refine wpAny_take (i := 6) (oi := ⟨some 18, Op.fieldAddr 33 (.tmp 5) 1, 0, "l05_zone.go:154", #[⟨0, .phase⟩, ⟨1, .phase⟩, ⟨2, .phase⟩, ⟨3, .phase⟩, ⟨4, .phase⟩, ⟨5, .phase⟩], none⟩) (v := .pointer (some ⟨w1.heap.size, 1, none⟩)) rfl (by kernel_rfl) (by kernel_rfl) (by kernel_rfl) (fun _ _ _ h => h) (Or.inl ⟨by rfl, fun w => by go_simp⟩) ?_
  try simp only [Act.put, List.setIfInBounds_toArray, List.set_cons_zero, List.set_cons_succ]
  refine wpAny_ready (rs := [7]) (by kernel_rfl) (by simp) (AllReady.cons (o := ⟨none, Op.store 31 (.tmp 18) (.tmp 17), 0, "l05_zone.go:154", #[⟨6, .data⟩, ⟨5, .data⟩, ⟨5, .chain⟩, ⟨0, .phase⟩, ⟨1, .phase⟩, ⟨2, .phase⟩, ⟨3, .phase⟩, ⟨4, .phase⟩, ⟨5, .phase⟩], none⟩) rfl (fun K hK => ?_) AllReady.nil)
  have HK := hide hK
  clear hK
  go_simp
  refine unhide HK _ _ ?_
  clear HK K
  refine wpAny_done (by kernel_rfl) ?_ _
  exact ⟨unhide KF, unhide BEL, unhide FIN⟩
 case done =>
  rintro D xs W hD hS ⟨⟨vr, kZ, hrow, hoN, kR, hz3⟩, hB⟩ hK
  rw [hS] at hrow
  obtain ⟨ra, rc, rfl, _⟩ := hrow.form
  obtain ⟨e0, e1⟩ : W.cell? ⟨w1.heap.size, 0, none⟩ = some (.slice p1 o.length q1) ∧ W.cell? ⟨w1.heap.size, 1, none⟩ = some (.slice ra rs.length rc) := ⟨block_cell kZ 0, block_cell kZ 1⟩
  obtain ⟨g0, g1⟩ : W.cell? ⟨w.heap.size + 1, 0, none⟩ = some (.slice none 0 0) ∧ W.cell? ⟨w.heap.size + 1, 1, none⟩ = some (.slice none 0 0) := ⟨block_cell kR 0, block_cell kR 1⟩
  have h0 := block_frozen kR 0
  have h1 := block_frozen kR 1
  have KRR := hide kR
  have ROW := hide hrow
  have OO := hide hoN
  have BB := hide hB
  have HKK := hide hK
  have zW := block_lt kZ
  have zD := block_lt hK
  clear kZ kR hrow hoN hB hK kz kr ON
  gi_wp2
  have kf : ((W.setCell ⟨w.heap.size + 1, 0, none⟩ (.slice p1 o.length q1)).setCell ⟨w.heap.size + 1, 1, none⟩ (.slice ra rs.length rc)).heap[w.heap.size + 1]? = some (.cells #[.slice p1 o.length q1, .slice ra rs.length rc] 33) := block_setAt (block_setAt (unhide KRR) 0 _) 1 _
  have u5 := (outside_set W (w.heap.size + 1) 0 (.slice p1 o.length q1)).trans (outside_set _ (w.heap.size + 1) 1 (.slice ra rs.length rc))
  have sD := ((KeepsOthers.setCell W ⟨w.heap.size + 1, 0, none⟩ (.slice p1 o.length q1)).trans (KeepsOthers.setCell _ ⟨w.heap.size + 1, 1, none⟩ (.slice ra rs.length rc))).same D _ (unhide HKK) rfl
  have row5 := (unhide ROW).outside u5 (.inr (by omega))
  have on5 := (unhide OO).outside u5 (.inr (by omega))
  have bb5 := u5.below (unhide BB) (by omega)
  have z5 := u5.size
  generalize (W.setCell ⟨w.heap.size + 1, 0, none⟩ (.slice p1 o.length q1)).setCell ⟨w.heap.size + 1, 1, none⟩ (.slice ra rs.length rc) = w5 at *
  refine ⟨by simp, .inl ⟨_, _, rfl, run_takeDeferred sD, ?_⟩⟩
  have hkk := keptC_of (grownBy_putObj' w5 D (.deferred none)) (fun r e => by cases e; exact ⟨_, sD, rfl⟩)
  have zp := (grownBy_putObj' w5 D (.deferred none)).size
  exact ⟨_, results_cell_row rfl _ _ (w.heap.size + 1) 33 #[.slice p1 o.length q1, .slice ra rs.length rc] (0, 0) _ rfl (hkk _ _ _ kf) Tryz.underlying33 rfl (by kernel_rfl), _, _, rfl, ⟨w1.heap.size, by omega, by omega, (on5.keptC hkk).wide (by omega) (Nat.le_refl _), (row5.keptC hkk).wide (by omega) (by omega)⟩, bb5.trans (belowK_b (w := w) (Nat.le_refl _) w5 D _ _ (by omega) sD rfl rfl)⟩
 case stop =>
  rintro D c pre W _ _ h _
  exact h.elim
end Go.Proofs.YtfgcmjpkgdjcfaaGreat

namespace Go.Proofs.YtfgcmjpkgdjcfaaGreat
open Go.RowKit
set_option linter.unusedVariables false

def nextF : List Bool → Nat
 | true :: l => nextF l + 1
 | _ => 0
def setF : List Bool → List Bool
 | true :: l => true :: setF l
 | false :: l => true :: l
 | [] => []
def dropF {α : Type} : List Bool → List α → List α
 | true :: l, _ :: m => dropF l m
 | _, m => m
theorem setF_eq : ∀ l : List Bool, l.set (nextF l) true = setF l
 | [] => rfl
 | false :: _ => rfl
 | true :: l => by simp [nextF, setF, setF_eq l]
theorem dropF_get {α : Type} {o : α} {r : List α} : ∀ (l : List Bool) (m : List α), dropF l m = o :: r → m[nextF l]? = some o
 | [], m, h => by simp only [dropF] at h; subst h; rfl
 | false :: _, m, h => by simp only [dropF] at h; subst h; rfl
 | true :: l, [], h => by simp only [dropF] at h; cases h
 | true :: l, _ :: m, h => by simp only [dropF] at h; simpa [nextF] using dropF_get l m h
def callsF : Op → Bool
 | .call _ => true
 | _ => false

section
variable {P : Program} {ops : Array Oper} {Q : Exit → Act → World → Prop} {md : Region.Mode} {S : World → Prop}
theorem ops_next {l : List Bool} {oi : Oper} {rest : List Oper} (hi : dropF l ops.toList = oi :: rest) : ops[nextF l]? = some oi := by
 have := dropF_get l ops.toList hi
 rwa [Array.getElem?_toList] at this
theorem ops_drop {i : Nat} {oi : Oper} {rest : List Oper} (hi : ops.toList.drop i = oi :: rest) : ops[i]? = some oi := by
 rw [← Array.getElem?_toList, ← List.head?_drop, hi]
 rfl
theorem listed_next (l : List Bool) : l.toArray.setIfInBounds (nextF l) true = (setF l).toArray := by
 rw [List.setIfInBounds_toArray, setF_eq]
/-- The next one is wanted and only looks. -/
theorem tkF (v : Value) {oi : Oper} {rest : List Oper} {fuel : Nat} {l : List Bool} {a : Act} {w : World} (hi : dropF l ops.toList = oi :: rest)
  (hk : (!callsF oi.op && Region.noSelect ops && Region.free md ops l.toArray (nextF l) && (Region.ready md ops l.toArray).contains (nextF l)) = true)
  (hb : Region.wanted oi (yielded ops a.tmps) = true) (hQ : ∀ c a w, Q (.panic c) (a.put oi.dst v) w → Q (.panic c) a w)
  (hy : ∀ w, S w → (execOp a.eval oi).run P w = .ok (.value v) w) (hS : S w)
  (h : wpAnyH P md ops Q S fuel (setF l).toArray (a.put oi.dst v) w) : wpAnyH P md ops Q S (fuel + 1) l.toArray a w := by
 simp only [Bool.and_eq_true] at hk
 refine wpAnyH_take (ops_next hi) hk.1.1.2 hk.1.2 hk.2 hQ (Or.inl ⟨hb, hy⟩) hS ?_
 rw [listed_next]
 exact h
/-- The next one is not wanted. -/
theorem skF {oi : Oper} {rest : List Oper} {fuel : Nat} {l : List Bool} {a : Act} {w : World} (hi : dropF l ops.toList = oi :: rest)
  (hk : (Region.noSelect ops && Region.free md ops l.toArray (nextF l) && (Region.ready md ops l.toArray).contains (nextF l)) = true)
  (hb : Region.wanted oi (yielded ops a.tmps) = false) (hQ : ∀ c a w, Q (.panic c) (a.put oi.dst undef) w → Q (.panic c) a w) (hS : S w)
  (h : wpAnyH P md ops Q S fuel (setF l).toArray (a.put oi.dst undef) w) : wpAnyH P md ops Q S (fuel + 1) l.toArray a w := by
 simp only [Bool.and_eq_true] at hk
 refine wpAnyH_take (ops_next hi) hk.1.1 hk.1.2 hk.2 hQ (Or.inr ⟨hb, rfl⟩) hS ?_
 rw [listed_next]
 exact h
/-- Number i is wanted and only looks. -/
theorem tkI (i : Nat) (v : Value) {oi : Oper} {rest : List Oper} {fuel : Nat} {listed : Array Bool} {a : Act} {w : World} (hi : ops.toList.drop i = oi :: rest)
  (hk : (Region.noSelect ops && Region.free md ops listed i && (Region.ready md ops listed).contains i) = true)
  (hb : Region.wanted oi (yielded ops a.tmps) = true) (hQ : ∀ c a w, Q (.panic c) (a.put oi.dst v) w → Q (.panic c) a w)
  (hy : ∀ w, S w → (execOp a.eval oi).run P w = .ok (.value v) w) (hS : S w)
  (h : wpAnyH P md ops Q S fuel (listed.setIfInBounds i true) (a.put oi.dst v) w) : wpAnyH P md ops Q S (fuel + 1) listed a w := by
 simp only [Bool.and_eq_true] at hk
 exact wpAnyH_take (ops_drop hi) hk.1.1 hk.1.2 hk.2 hQ (Or.inl ⟨hb, hy⟩) hS h
/-- Number i alone may come up: it is run, and S shown anew. -/
theorem runI (i : Nat) {oi : Oper} {rest : List Oper} {fuel : Nat} {listed : Array Bool} {a : Act} {w : World} (hi : ops.toList.drop i = oi :: rest)
  (hk : (Region.ready md ops listed == [i]) = true) (hb : Region.wanted oi (yielded ops a.tmps) = true)
  (h : ∀ K' : Act → World → Prop, Shut (∀ a w, S w → (S w → wpAnyH P md ops Q S fuel (listed.setIfInBounds i true) a w) → K' a w) → Oper.wp P oi a w K' Q) :
  wpAnyH P md ops Q S (fuel + 1) listed a w := by
 rw [beq_iff_eq] at hk
 refine wpAnyH_ready hk (by simp) (AllReadyH.cons (ops_drop hi) (fun K hK => ?_) AllReadyH.nil)
 rw [if_pos hb]
 exact h K hK
end
end Go.Proofs.YtfgcmjpkgdjcfaaGreat

namespace Go.Proofs.YtfgcmjpkgdjcfaaGreat
open Go.RowKit Go.Shelf
set_option linter.unusedVariables false

set_option maxHeartbeats 400000 in
set_option maxRecDepth 100000 in
theorem values_any (a : Option Addr) (len cap : Nat) (w : World) : Calls Tryz.prog 113 #[.slice a len cap] w fun e w' => e = .returned (.func (.func 131) #[] #[.pointer (some ⟨w.heap.size, 0, none⟩)]) ∧ w' = w.alloc (.cells #[.slice a len cap] 31) := by
 go_enter Tryz.func113, Tryz.ntmps113
 go_wp2
 go_ret
 exact ⟨rfl, rfl⟩
theorem values_stops (Bt : Nat) (w0 w : World) (a : Option Addr) (cap : Nat) (rs : List Rec) (hT : HasRs w0 (.slice a rs.length cap) rs) (hsh : ∀ i, i < rs.length → ShortR (rs.getD i recZ)) (hl : rs.length ≤ 1048576) (hb : Below w0.heap.size w0 w) (hBt : w.cell? ⟨Bt, 0, none⟩ = some (.slice a rs.length cap)) :
  SeqStopsK Fence.wide 4 Tryz.prog 131 #[.pointer (some ⟨Bt, 0, none⟩)] (fun x : RecV w0 => encV x) (Below w0.heap.size) (fun xs => xs.map (·.1.2) = rs) (fun _ => True) rs.length w :=
 fun l J Jx W hW hJ hJx hY h0 => values1_in 4 (by omega) l Bt _ w0 a cap rs rfl hT hsh hl J Jx W (hb.trans (hW.mono hb.size)) hJ hY ((hW.cell (p := ⟨Bt, 0, none⟩) (World.block_lt_of_cell? w ⟨Bt, 0, none⟩ hBt)).trans hBt) h0

set_option maxHeartbeats 4000000 in
set_option maxRecDepth 100000 in
theorem copyZone_own {vo vr : Value} {o : List (List Int)} {rs : List Rec} {w : World} (h : HasZ w vo vr o rs) (ho1 : o.length ≤ 6) (ho2 : ∀ k, k < o.length → (o.getD k []).length ≤ 15) (hsh : ∀ i, i < rs.length → ShortR (rs.getD i recZ)) (hlen : rs.length ≤ 1000) :
  Calls Tryz.prog 86 #[.agg #[vo, vr]] w fun e w' => ∃ uo ur, e = .returned (.agg #[uo, ur]) ∧ OwnZ w.heap.size w'.heap.size w' uo ur o rs ∧ Below w.heap.size w w' := by
 obtain ⟨oa, oc, rfl, _⟩ := h.name.form
 obtain ⟨ra, rc, rfl, _⟩ := h.recs.form
 obtain ⟨hsz, k0, r0⟩ := box2 w (.cells #[.slice oa o.length oc, .slice ra rs.length rc] 33) #[.slice none 0 0, .slice none 0 0] 33
 have b0 := below2 w (.cells #[.slice oa o.length oc, .slice ra rs.length rc] 33) (.cells #[.slice none 0 0, .slice none 0 0] 33)
 have HH := hide h
 have HS := hide hsh
 have HO := hide ho2
 have KB := hide k0
 have KR := hide r0
 have zz := block_lt r0
 clear hsz k0 r0 h hsh ho2
 go_enter Tryz.func86, Tryz.ntmps86
 go_wp2_with fail
 generalize (w.alloc (.cells #[.slice oa o.length oc, .slice ra rs.length rc] 33)).alloc (.cells #[.slice none 0 0, .slice none 0 0] 33) = W at *
 have bd := below_drew (w := W)
 have bb := below_next b0 bd
 replace KB := hide (block_kept bd (unhide KB))
 replace KR := hide (block_kept bd (unhide KR))
 have z0 := bd.size
 clear bd b0
 refine wp_region_held_drew (S := (fun w' => w'.cell? ⟨w.heap.size, 0, none⟩ = some (.slice oa o.length oc) ∧ w'.cell? ⟨w.heap.size, 1, none⟩ = some (.slice ra rs.length rc))) (by kernel_rfl) (cells2 (unhide KB)) (fun hHeld => ?_)
 show wpAnyH _ _ _ _ _ 7 #[false, false, false, false, false, false, false] _ _
 generalize W.drew = W0 at *
 refine tkF (.pointer (some ⟨w.heap.size, 0, none⟩)) rfl (by kernel_rfl) (by kernel_rfl) (fun _ _ _ h => h) ?_ hHeld ?_; (· (intro w hSw; (try dsimp only at hSw); go_simp)); simp only [Act.put, setF, List.setIfInBounds_toArray, List.set_cons_zero, List.set_cons_succ]
 refine tkF (.agg #[.slice oa o.length oc]) rfl (by kernel_rfl) (by kernel_rfl) (fun _ _ _ h => h) ?_ hHeld ?_; (· (intro w hSw; (try dsimp only at hSw); go_simp)); simp only [Act.put, setF, List.setIfInBounds_toArray, List.set_cons_zero, List.set_cons_succ]
 refine tkF (.pointer (some ⟨w.heap.size, 1, none⟩)) rfl (by kernel_rfl) (by kernel_rfl) (fun _ _ _ h => h) ?_ hHeld ?_; (· (intro w hSw; (try dsimp only at hSw); go_simp)); simp only [Act.put, setF, List.setIfInBounds_toArray, List.set_cons_zero, List.set_cons_succ]
 refine tkF (.slice ra rs.length rc) rfl (by kernel_rfl) (by kernel_rfl) (fun _ _ _ h => h) ?_ hHeld ?_; (· (intro w hSw; (try dsimp only at hSw); go_simp)); simp only [Act.put, setF, List.setIfInBounds_toArray, List.set_cons_zero, List.set_cons_succ]
 refine wpAnyH_ready (rs := [4]) (by kernel_rfl) (by simp) (AllReadyH.cons (ops_drop rfl) (fun K hK => ?_) AllReadyH.nil)
 have HK := hide hK
 clear hK hHeld
 go_simp
 refine (values_any ra rs.length rc _).mono ?_
 rintro e w1 ⟨rfl, hw1⟩
 have b1 : Below W0.heap.size W0 w1 := by rw [hw1]; exact below_alloc _
 have k1 : w1.heap[W0.heap.size]? = some (.cells #[.slice ra rs.length rc] 31) := by rw [hw1]; exact heap_alloc_new _ _
 replace KB := hide (block_kept b1 (unhide KB))
 replace KR := hide (block_kept b1 (unhide KR))
 replace bb := below_next bb b1
 have z1 := b1.size
 have K1 := hide k1
 clear hw1 b1 k1
 go_simp
 refine (unhide HK).out _ _ (cells2 (unhide KB)) (fun hHeld => ?_)
 clear HK K
 try simp only [List.setIfInBounds_toArray, List.set_cons_zero, List.set_cons_succ]
 have HZ := hide ((callsIn_wide (n := 5)).1 (zoneOf_in bb ((unhide HH).name.below bb) ho1 (unhide HO) hlen (enters_of Tryz.func131 (by kernel_rfl) rfl) (values_stops W0.heap.size w w1 ra rc rs (unhide HH).recs (unhide HS) (by omega) bb (block_one (unhide K1)))))
 refine wpAnyH_ready (rs := [5]) (by kernel_rfl) (by simp) (AllReadyH.cons (ops_drop rfl) (fun K hK => ?_) AllReadyH.nil)
 have HK := hide hK
 clear hK hHeld
 go_simp
 refine (unhide HZ).mono ?_
 rintro e w2 ⟨uo, ur, rfl, ⟨s, s1, s2, oN, oR⟩, b2⟩
 obtain ⟨pa, pc, rfl, _⟩ := oN.hasL.form
 obtain ⟨qa, qc, rfl, _⟩ := oR.form
 replace KB := hide (block_kept b2 (unhide KB))
 replace KR := hide (block_kept b2 (unhide KR))
 replace bb := below_next bb b2
 have z2 := b2.size
 have ON := hide oN
 have OR := hide oR
 clear b2 oN oR HZ
 go_simp
 refine (unhide HK).out _ _ (cells2 (unhide KB)) (fun hHeld => ?_)
 clear HK K
 try simp only [List.setIfInBounds_toArray, List.set_cons_zero, List.set_cons_succ]
 have u5 := (outside_set w2 (w.heap.size + 1) 0 (.slice pa o.length pc)).trans (outside_set _ (w.heap.size + 1) 1 (.slice qa rs.length qc))
 have KF : Hid (((w2.setCell ⟨w.heap.size + 1, 0, none⟩ (.slice pa o.length pc)).setCell ⟨w.heap.size + 1, 1, none⟩ (.slice qa rs.length qc)).heap[w.heap.size + 1]? = some (.cells #[.slice pa o.length pc, .slice qa rs.length qc] 33)) := block_setAt (block_setAt (unhide KR) 0 _) 1 _
 have KB5 := hide (u5.kept (unhide KB) (by omega))
 have ON5 := hide ((unhide ON).outside u5 (.inr (by omega)))
 have OR5 := hide ((unhide OR).outside u5 (.inr (by omega)))
 have bb5 := u5.below bb (by omega)
 have z5 := u5.size
 obtain ⟨d0, d1⟩ := cells2 (unhide KR)
 obtain ⟨f0, f1⟩ := frozen2 (unhide KR)
 clear u5
 refine wpAnyH_ready (rs := [6]) (by kernel_rfl) (by simp) (AllReadyH.cons (ops_drop rfl) (fun K hK => ?_) AllReadyH.nil)
 have HK := hide hK
 clear hK hHeld
 go_simp
 refine (unhide HK).out _ _ (cells2 (unhide KB5)) (fun hHeld => ?_)
 clear HK K d0 d1 f0 f1 hHeld
 refine wpAnyH_done (by kernel_rfl) ?_ _
 go_wp2_with fail
 refine bodyPost_ret (results_cell_row rfl _ _ (w.heap.size + 1) 33 #[.slice pa o.length pc, .slice qa rs.length qc] (0, 0) _ rfl (unhide KF) Tryz.underlying33 rfl (by kernel_rfl)) rfl ?_
 exact ⟨_, _, rfl, ⟨s, by omega, by omega, (unhide ON5).wide (by omega) (Nat.le_refl _), (unhide OR5).wide (Nat.le_refl _) (by omega)⟩, bb5⟩
end Go.Proofs.YtfgcmjpkgdjcfaaGreat
