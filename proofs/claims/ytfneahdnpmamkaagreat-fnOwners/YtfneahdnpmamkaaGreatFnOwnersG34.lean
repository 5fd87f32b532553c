/-
  Contracts of the program's zoneOf, over whatever iterator of records, and copyZone. Contract of the program's copyZone: a zone of its own with the same name and records. Contracts of the program's labelSign and LabelOk. Contracts of the program's NameOk. Contracts of the program's upTo.
-/
import Derived.Test.YtfneahdnpmamkaaGreatFnOwnersG33
namespace Go.Proofs.YtfneahdnpmamkaaGreat
open Go.RowKit Go.Shelf
set_option linter.unusedVariables false

theorem Nf : (Tryz.prog.info? 39).map (fun i => (i.zero, i.size, i.bytes)) = some (some (.agg #[.slice none 0 0, .int .i64 0, .int .i64 0, .int .i64 0, .slice none 0 0, .slice none 0 0, .slice none 0 0]), 7, 120) := by kernel_rfl
def Ks {w : World} (x : RecV w) : Array Value := #[x.1.1.1, .int .i64 x.1.2.type, .int .i64 x.1.2.ttl, .int .i64 x.1.2.addr, x.1.1.2.1, x.1.1.2.2.1, x.1.1.2.2.2]
def GotZ (w : World) (Z : Nat) (vo : Value) (o : List (List Int)) (w0 : World) (pre : List (RecV w0)) (W : World) : Prop :=
 (∃ vr, W.heap[Z]? = some (.cells #[vo, vr] 28) ∧ RowO (Z + 1) W.heap.size 39 22 5 3 W vr (pre.map (·.1.2)) ∧ OwnN (w.heap.size + 2) Z 22 5 W vo o ∧ W.heap[w.heap.size + 1]? = some (.cells #[.slice none 0 0, .slice none 0 0] 28) ∧ w.heap.size + 2 ≤ Z) ∧ Below w.heap.size w W
theorem Rv (w : World) (Z : Nat) (vo : Value) (o : List (List Int)) (w0 : World) (B : Nat) (hB : w.heap.size ≤ B) : OwnFrom B (GotZ w Z vo o w0) := by
 intro s W W' row ⟨⟨vr, h1, h2, h3, h4, h5⟩, hb⟩ hg hr
 have hk := D7 hg (fun r e => (hr r e).2)
 exact ⟨⟨vr, hk _ _ _ h1, (h2.keptC hk).wide (Nat.le_refl _) hg.size, h3.keptC hk, hk _ _ _ h4, h5⟩, hb.grown hg hb.size (fun k e => by have := (hr k e).1; omega)⟩
theorem Gw {B Z : Nat} {W Wd w2 w3 w4 : World} {v4 : Value} {row : Option Nat} {c : Array Value} {t : TypeId} {j : Nat} (h1 : Below W.heap.size W Wd) (h2 : Below Wd.heap.size Wd w2) (h3 : Below w2.heap.size w2 w3) (h4 : w3.grownBy w4 row) (hr : ∀ k o, w3.heap[k]? = some o → o.isCells = false → row ≠ some k) (hZ : w4.heap[Z]? = some (.cells c t)) : KeepsFrom B W (w4.setCell ⟨Z, j, none⟩ v4) := by
 have zs := (Ab w4 ⟨Z, j, none⟩ v4).size
 have z1 := h1.size
 have z2 := h2.size
 have z3 := h3.size
 have z4 := h4.size
 refine ⟨by omega, fun k o hB hk ho => ?_⟩
 have q3 := UE h3 (UE h2 (UE h1 hk))
 have q4 := Aa h4 q3 (hr k o q3 ho)
 refine Aa (Ab w4 ⟨Z, j, none⟩ v4) q4 ?_
 intro e
 simp only [Option.some.injEq] at e
 subst e
 rw [hZ] at q4
 cases q4
 cases ho

set_option maxHeartbeats 8000000 in
set_option maxRecDepth 100000 in
theorem Wf {w0 w : World} (hw0 : Below w0.heap.size w0 w) {vo : Value} {o : List (List Int)} (ho : HasL w vo o) (ho1 : o.length ≤ 6) (ho2 : ∀ k, k < o.length → (o.getD k []).length ≤ 15) {rs : List Rec} (hlen : rs.length ≤ 1000) {gf : Nat} {lb : Array Value}
  (eg : ∀ args w, (callFunc gf args).run Tryz.prog w = .ok (.enter gf args) w)
  (hseq : SeqStopsK Fence.wide 4 Tryz.prog gf lb (fun x : RecV w0 => encV x) (Below w0.heap.size) (fun xs => xs.map (·.1.2) = rs) (fun _ => True) rs.length w) :
  CallsIn Fence.wide 5 Tryz.prog 82 #[.agg #[vo], .func (.func gf) #[] lb] w fun e w' => ∃ uo ur, e = .returned (.agg #[uo, ur]) ∧ OwnZ w.heap.size w'.heap.size w' uo ur o rs ∧ Below w.heap.size w w' := by
 obtain ⟨oa, oc, rfl, _⟩ := ho.form
 obtain ⟨hsz, k0, r0⟩ := box2 w (.cells #[.slice oa o.length oc] 25) #[.slice none 0 0, .slice none 0 0] 28
 have b0 := Bl w (.cells #[.slice oa o.length oc] 25) (.cells #[.slice none 0 0, .slice none 0 0] 28)
 have HC := UC (Hd (ho.below b0) ho1 ho2)
 have KR := UC r0
 have zz := VC r0
 have c0 := US k0
 clear hsz k0 r0 ho ho1 ho2
 refine callsIn_of_wp_marks Tryz.func82 rfl trivial ?_ rfl
 simp only [Tryz.ntmps82, List.size_toArray, List.length_cons, List.length_nil, Nat.reduceAdd, Nat.reduceSub, Array.replicate_succ, Array.replicate_zero, List.push_toArray, List.append_toArray, List.nil_append, List.cons_append]
 gi_wp2_with (refine ⟨trivial, ?_⟩; gi_at_call 77; refine (callsIn_wide.2 (UB HC)).mono ?_; rintro e w1 ⟨v1, rfl, o1, b1⟩; obtain ⟨p1, q1, rfl, _⟩ := o1.hasL.form)
 have bz := UI (w := w1) (.cells #[.slice p1 o.length q1, .slice none 0 0] 28)
 have kz := heap_alloc_new w1 (.cells #[.slice p1 o.length q1, .slice none 0 0] 28)
 have kr := UE bz (UE b1 (UB KR))
 have hB0 := UG (UG b0 b1) bz
 have ON := (o1.here.wide (C' := w.heap.size + 2) (E' := w1.heap.size) (by omega) (Nat.le_refl _)).below bz
 have z1 := b1.size
 have zk := VC kz
 have hz2 : w.heap.size + 2 ≤ w1.heap.size := by omega
 clear HC KR b0 b1 o1 c0 bz
 generalize hW0 : w1.alloc (.cells #[.slice p1 o.length q1, .slice none 0 0] 28) = W0 at *
 clear hW0
 refine wpIn_rangeFunc_ownH rfl (by omega) (gf := gf) (lb := lb) rfl trivial eg hseq (fun h k => h.trans k) (belowK_b (Nat.le_trans hw0.size hB0.size)) hB0 (fun _ => rfl)
  (GotZ w w1.heap.size (.slice p1 o.length q1) o w0) (fun _ _ _ => False) (Rv w w1.heap.size _ o w0 _ hB0.size) (fun _ _ _ _ _ h _ _ => h)
  ⟨⟨.slice none 0 0, kz, RowO.nil _ _ _ _ _ _ _, ON, kr, hz2⟩, hB0⟩
  (fun x a' W => ∃ Bx, w1.heap.size < Bx ∧ W.heap[Bx]? = some (.cells (Ks x) 39) ∧ a' = { tmps := #[.agg #[.slice oa o.length oc], .func (.func gf) #[] lb, .pointer (some ⟨w.heap.size, 0, none⟩), undef, .pointer (some ⟨w.heap.size + 1, 0, none⟩), .pointer (some ⟨w1.heap.size, 0, none⟩), .pointer (some ⟨Bx, 0, none⟩), .agg #[.slice oa o.length oc], .agg #[.slice p1 o.length q1], .agg #[.slice p1 o.length q1, .slice none 0 0], .func (.func gf) #[] lb, .agg (Ks x), undef, undef, undef, undef, undef, undef, undef, undef], defers := [] })
  (fun x a' _ W W' row ⟨Bx, q1, q2, q3⟩ hg hr => ⟨Bx, q1, D7 hg (fun r e => (hr r e).2) _ _ _ q2, q3⟩) ?assign ?body ?done ?stop
 case assign =>
  rintro lr pre x W K hi hK
  have hsem := Oper.semAt_some lr
  obtain ⟨⟨⟨vn, vt, vx, vi⟩, r⟩, hRR⟩ := x
  have hR := hRR.1
  have hS := hRR.2
  dsimp only at hR hS hRR
  obtain ⟨na, nc, rfl, _⟩ := hR.name.form
  obtain ⟨ta, tc, rfl, _⟩ := hR.to.form
  obtain ⟨xa, xc, rfl, _⟩ := hR.text.form
  obtain ⟨ia, ic, rfl, _⟩ := hR.nums.form
  have zW := VC hi.1.choose_spec.1
  have ba := UI (w := W) (.cells #[.slice na r.name.length nc, .int .i64 r.type, .int .i64 r.ttl, .int .i64 r.addr, .slice ta r.to.length tc, .slice xa r.text.length xc, .slice ia r.nums.length ic] 39)
  have hi2 := Rv w w1.heap.size _ o w0 w.heap.size (Nat.le_refl _) pre W _ none hi (World.grownBy_alloc W (.cells #[.slice na r.name.length nc, .int .i64 r.type, .int .i64 r.ttl, .int .i64 r.addr, .slice ta r.to.length tc, .slice xa r.text.length xc, .slice ia r.nums.length ic] 39) none) (fun r e => by cases e)
  have kx := heap_alloc_new W (.cells #[.slice na r.name.length nc, .int .i64 r.type, .int .i64 r.ttl, .int .i64 r.addr, .slice ta r.to.length tc, .slice xa r.text.length xc, .slice ia r.nums.length ic] 39)
  have HK := UC hK
  have H2 := UC hi2
  have KX := UC kx
  have BA := UC ba
  clear hK hi2 kx ba hi
  unfold encV
  gi_wp2
  exact UB HK _ _ ((KeepsOthers.alloc _ _).from _) ((UB BA).mono (Nat.le_trans hw0.size (by omega))) (UB H2) ⟨W.heap.size, zW, UB KX, rfl⟩
 case body =>
  rintro lr pre x a' W hl ⟨rr, hrr⟩ ⟨⟨vr, kZ, hrow, hoN, kR, hz3⟩, hB⟩ ⟨Bx, hBx, kX, rfl⟩ hlt
  have hsem := Oper.semAt_some lr
  obtain ⟨⟨⟨vn, vt, vx, vi⟩, r⟩, hRR⟩ := x
  have hR := hRR.1
  have hS := hRR.2
  dsimp only at hR hS hRR
  obtain ⟨na, nc, rfl, _⟩ := hR.name.form
  obtain ⟨ta, tc, rfl, _⟩ := hR.to.form
  obtain ⟨xa, xc, rfl, _⟩ := hR.text.form
  obtain ⟨ia, ic, rfl, _⟩ := hR.nums.form
  obtain ⟨ra, rc, rfl, _⟩ := hrow.form
  have hpl : (pre.map (·.1.2)).length = pre.length := List.length_map _
  rw [hpl] at kZ hrow
  replace kX : W.heap[Bx]? = some (.cells #[.slice na r.name.length nc, .int .i64 r.type, .int .i64 r.ttl, .int .i64 r.addr, .slice ta r.to.length tc, .slice xa r.text.length xc, .slice ia r.nums.length ic] 39) := kX
  have hlp : pre.length ≤ 1000 := by omega
  have bd := UX (w := W)
  have KZ := UC (UE bd kZ)
  have KX := UC (UE bd kX)
  have KRR := UC (UE bd kR)
  have ROW := UC (hrow.below bd)
  have OO := UC (hoN.below bd)
  have BB := UC (UG hB bd)
  have zB := hB.size
  have zW := VC kZ
  have HR := UC (hR.below (UG (UG hw0 hB) bd))
  have HSS := UC hS
  have zd := bd.size
  have BD := UC bd
  have hW0s := hw0.size
  clear kZ kX kR hrow hoN hB hR hS bd kz kr ON hB0 hrr
  unfold Ks
  dsimp only
  gi_wp2
  refine Hg (by rintro ⟨a', w', hq⟩; exact hq) (by kernel_rfl) (by kernel_rfl) ?_
  show wpAny _ _ _ _ _ _ _ W.drew
  generalize W.drew = Wd at *
  have cZ : Wd.cell? ⟨w1.heap.size, 1, none⟩ = some (.slice ra pre.length rc) := VE (UB KZ) 1
  obtain ⟨d0, d1, d2, d3, d4, d5, d6⟩ := UJ (UB KX)
  refine wpAny_take (i := 0) (oi := ⟨some 12, Op.fieldAddr 28 (.tmp 5) 1, 0, "l05_zone.go:154", #[], none⟩) (v := .pointer (some ⟨w1.heap.size, 1, none⟩)) rfl (by kernel_rfl) (by kernel_rfl) (by kernel_rfl) (fun _ _ _ h => h) (Or.inl ⟨by rfl, fun w => by go_simp⟩) ?_
  try simp only [Act.put, List.setIfInBounds_toArray, List.set_cons_zero, List.set_cons_succ]
  refine Gg (i := 1) (oi := ⟨some 13, Op.load 26 (.tmp 12), 26, "l05_zone.go:154", #[⟨0, .data⟩], none⟩) (v := .slice ra pre.length rc) (fun w' => w'.cell? ⟨w1.heap.size, 1, none⟩ = some (.slice ra pre.length rc)) rfl (by kernel_rfl) (by kernel_rfl) (by kernel_rfl) (fun _ _ _ h => h) (Or.inl ⟨by rfl, fun w' hw' => by go_simp⟩) cZ ?_
  try simp only [Act.put, List.setIfInBounds_toArray, List.set_cons_zero, List.set_cons_succ]
  refine Al (js := [2]) (by kernel_rfl) (by simp) (AllT.cons (o := ⟨some 14, Op.load 39 (.tmp 6), 39, "l05_zone.go:154", #[], none⟩) rfl (fun K hK => ?_) AllT.nil)
  have HK := UC hK
  clear hK
  go_simp
  refine UB HK _ _ cZ ?_
  clear HK K d0 d1 d2 d3 d4 d5 d6
  try simp only [Act.put, List.setIfInBounds_toArray, List.set_cons_zero, List.set_cons_succ]
  refine Al (js := [3]) (by kernel_rfl) (by simp) (AllT.cons (o := ⟨some 15, Op.call { callee := Callee.value (Operand.func 46), args := #[Operand.tmp 14], argTypes := #[39] }, 39, "l05_zone.go:154", #[⟨2, .data⟩], none⟩) rfl (fun K hK => ?_) AllT.nil)
  have HK := UC hK
  clear hK
  go_simp
  refine (I7 (UB HR) (UB HSS)).mono ?_
  rintro e w2 ⟨un, ut, ux, ui, rfl, oR, b2⟩
  obtain ⟨pa, pc, rfl, _⟩ := oR.hasR.name.form
  obtain ⟨qa, qc, rfl, _⟩ := oR.hasR.to.form
  obtain ⟨ya, yc, rfl, _⟩ := oR.hasR.text.form
  obtain ⟨za, zc, rfl, _⟩ := oR.hasR.nums.form
  have OR := UC oR
  have B2 := UC b2
  have z2 := b2.size
  have cZ2 : w2.cell? ⟨w1.heap.size, 1, none⟩ = some (.slice ra pre.length rc) := VE (UE b2 (UB KZ)) 1
  clear oR b2
  go_simp
  refine UB HK _ _ cZ2 ?_
  clear HK K cZ cZ2
  try simp only [Act.put, List.setIfInBounds_toArray, List.set_cons_zero, List.set_cons_succ]
  have b3 := UI (w := w2) (.cells #[.slice pa r.name.length pc, .int .i64 r.type, .int .i64 r.ttl, .int .i64 r.addr, .slice qa r.to.length qc, .slice ya r.text.length yc, .slice za r.nums.length zc] 39)
  have g3 := heap_alloc_new w2 (.cells #[.slice pa r.name.length pc, .int .i64 r.type, .int .i64 r.ttl, .int .i64 r.addr, .slice qa r.to.length qc, .slice ya r.text.length yc, .slice za r.nums.length zc] 39)
  have k3 := UE b3 (UE (UB B2) (UB KZ))
  have row3 := ((UB ROW).below (UB B2)).below b3
  have OR3 := UC ((UB OR).below b3)
  have on3 := ((UB OO).below (UB B2)).below b3
  have kr3 := UE b3 (UE (UB B2) (UB KRR))
  have bb3 := UG (UG (UB BB) (UB B2)) b3
  have z3 := b3.size
  have B3 := UC b3
  have G3 := UC g3
  have K3 := UC k3
  have ROW3 := UC row3
  have ON3 := UC on3
  have KR3 := UC kr3
  have BB3 := UC bb3
  have cZ3 : (w2.alloc (.cells #[.slice pa r.name.length pc, .int .i64 r.type, .int .i64 r.ttl, .int .i64 r.addr, .slice qa r.to.length qc, .slice ya r.text.length yc, .slice za r.nums.length zc] 39)).cell? ⟨w1.heap.size, 1, none⟩ = some (.slice ra pre.length rc) := VE k3 1
  clear b3 g3 k3 row3 on3 kr3 bb3 ROW OO KRR KX HR HSS OR
  refine Al (js := [4]) (by kernel_rfl) (by simp) (AllT.cons (o := ⟨some 16, Op.buildSlice 26 1 #[(0, Operand.tmp 15)], 26, "l05_zone.go:154", #[⟨3, .data⟩], none⟩) rfl (fun K hK => ?_) AllT.nil)
  have HK := UC hK
  clear hK
  go_simp
  refine UB HK _ _ cZ3 ?_
  clear HK K cZ3
  try simp only [Act.put, List.setIfInBounds_toArray, List.set_cons_zero, List.set_cons_succ]
  generalize w2.alloc (.cells #[.slice pa r.name.length pc, .int .i64 r.type, .int .i64 r.ttl, .int .i64 r.addr, .slice qa r.to.length qc, .slice ya r.text.length yc, .slice za r.nums.length zc] 39) = w3 at *
  refine AnyT.over _ _ _ _ (by kernel_rfl) ?_
  refine wpAny_ready (rs := [5]) (by kernel_rfl) (by simp) (AllReady.cons (o := ⟨some 17, Op.call { callee := Callee.builtin Builtin.append, args := #[Operand.tmp 13, Operand.tmp 16], argTypes := #[26, 26] }, 26, "l05_zone.go:154", #[⟨1, .data⟩, ⟨4, .data⟩, ⟨3, .chain⟩], none⟩) rfl (fun K hK => ?_) AllReady.nil)
  have HK := UC hK
  clear hK
  obtain ⟨xs3, f3, g3, hx3, hq3, hh3⟩ := UB ROW3
  rw [hpl] at hx3
  refine E0 rfl (.tmp 13) (.tmp 16) 26 39 rfl Tryz.underlying26 _ Nf rfl (w1.heap.size + 1) (.slice ra pre.length rc) pre.length (by simp [Act.eval]) w2.heap.size [.slice pa r.name.length pc, .int .i64 r.type, .int .i64 r.ttl, .int .i64 r.addr, .slice qa r.to.length qc, .slice ya r.text.length yc, .slice za r.nums.length zc] (by simp [Act.eval]) ⟨xs3, hx3⟩ (UB G3) rfl (by simp [Value.oneCell']) (by omega) (by omega) ?_
  intro v4 w4 ho4 g4 hw4
  have row4 := RowO.snoc (UB ROW3) (C := Wd.heap.size) (D := w2.heap.size) zd z3 (UB OR3) (by omega) g4 hw4 (by rw [hpl]; exact ho4)
  have u4 : Ap (w1.heap.size + 1) w3.heap.size w3 w4 := Cx g4 (fun k hk => World.ownsRow.lt hx3 k hk)
  have k4 := Aa g4 (UB K3) (Dh hx3 (UB K3) (by decide))
  have kf := Gw (B := W0.heap.size) (j := 1) (v4 := v4) (UB BD) (UB B2) (UB B3) g4 (fun k o h1 h2 => Ia hx3 h1 h2) k4
  have on4 := (UB ON3).outside u4 (.inl (by omega))
  have kr4 := u4.kept (UB KR3) (by omega)
  have u5 := UT w4 w1.heap.size 1 v4
  have z4 := u4.size
  have z5 := u5.size
  have bel : Below w0.heap.size W (w4.setCell ⟨w1.heap.size, 1, none⟩ v4) := u5.belowAt (u4.belowAt (((UB BD).mono (by omega)).trans (((UB B2).mono (by omega)).trans ((UB B3).mono (by omega)))) (by omega) (by omega)) (by omega) (by omega)
  have bb5 : Below w.heap.size w (w4.setCell ⟨w1.heap.size, 1, none⟩ v4) := u5.below (u4.below (UB BB3) (by omega)) (by omega)
  have FIN : Hid (GotZ w w1.heap.size (.slice p1 o.length q1) o w0 (pre ++ [⟨((.slice na r.name.length nc, .slice ta r.to.length tc, .slice xa r.text.length xc, .slice ia r.nums.length ic), r), hRR⟩]) (w4.setCell ⟨w1.heap.size, 1, none⟩ v4)) := ⟨⟨v4, UV k4 1 v4, by rw [List.map_append]; exact (row4.outside u5 (.inr (Nat.le_refl _))).wide (Nat.le_refl _) z5, on4.outside u5 (.inl (Nat.le_refl _)), u5.kept kr4 (by omega), hz3⟩, bb5⟩
  have KF := UC kf
  have BEL := UC bel
  have c4 := VE k4 1
  have f4 := VG k4 1
  simp only [List.getElem?_toArray, List.getElem?_cons_zero, List.getElem?_cons_succ] at c4
  obtain ⟨v4a, v4c, hv4, _⟩ := row4.form
  rw [List.length_append, hpl] at hv4
  replace hv4 : v4 = .slice v4a (pre.length + 1) v4c := hv4
  subst hv4
  clear row4 u4 k4 kf on4 kr4 u5 bel bb5 ho4 g4 hw4 hx3 hq3 hh3 ROW3 OR3 ON3 KR3 BB3 G3 K3 B2 B3 BD BB
  refine UB HK _ _ ?_
  clear HK K
  try simp only [Act.put, List.setIfInBounds_toArray, List.set_cons_zero, List.set_cons_succ]
  refine wpAny_take (i := 6) (oi := ⟨some 18, Op.fieldAddr 28 (.tmp 5) 1, 0, "l05_zone.go:154", #[⟨0, .phase⟩, ⟨1, .phase⟩, ⟨2, .phase⟩, ⟨3, .phase⟩, ⟨4, .phase⟩, ⟨5, .phase⟩], none⟩) (v := .pointer (some ⟨w1.heap.size, 1, none⟩)) rfl (by kernel_rfl) (by kernel_rfl) (by kernel_rfl) (fun _ _ _ h => h) (Or.inl ⟨by rfl, fun w => by go_simp⟩) ?_
  try simp only [Act.put, List.setIfInBounds_toArray, List.set_cons_zero, List.set_cons_succ]
  refine wpAny_ready (rs := [7]) (by kernel_rfl) (by simp) (AllReady.cons (o := ⟨none, Op.store 26 (.tmp 18) (.tmp 17), 0, "l05_zone.go:154", #[⟨6, .data⟩, ⟨5, .data⟩, ⟨5, .chain⟩, ⟨0, .phase⟩, ⟨1, .phase⟩, ⟨2, .phase⟩, ⟨3, .phase⟩, ⟨4, .phase⟩, ⟨5, .phase⟩], none⟩) rfl (fun K hK => ?_) AllReady.nil)
  have HK := UC hK
  clear hK
  go_simp
  refine UB HK _ _ ?_
  clear HK K
  refine wpAny_done (by kernel_rfl) ?_ _
  exact ⟨UB KF, UB BEL, UB FIN⟩
 case done =>
  rintro D xs W hD hS ⟨⟨vr, kZ, hrow, hoN, kR, hz3⟩, hB⟩ hK
  rw [hS] at hrow
  obtain ⟨ra, rc, rfl, _⟩ := hrow.form
  obtain ⟨e0, e1⟩ : W.cell? ⟨w1.heap.size, 0, none⟩ = some (.slice p1 o.length q1) ∧ W.cell? ⟨w1.heap.size, 1, none⟩ = some (.slice ra rs.length rc) := ⟨VE kZ 0, VE kZ 1⟩
  obtain ⟨g0, g1⟩ : W.cell? ⟨w.heap.size + 1, 0, none⟩ = some (.slice none 0 0) ∧ W.cell? ⟨w.heap.size + 1, 1, none⟩ = some (.slice none 0 0) := ⟨VE kR 0, VE kR 1⟩
  have h0 := VG kR 0
  have h1 := VG kR 1
  have KRR := UC kR
  have ROW := UC hrow
  have OO := UC hoN
  have BB := UC hB
  have HKK := UC hK
  have zW := VC kZ
  have zD := VC hK
  clear kZ kR hrow hoN hB hK kz kr ON
  gi_wp2
  have kf : ((W.setCell ⟨w.heap.size + 1, 0, none⟩ (.slice p1 o.length q1)).setCell ⟨w.heap.size + 1, 1, none⟩ (.slice ra rs.length rc)).heap[w.heap.size + 1]? = some (.cells #[.slice p1 o.length q1, .slice ra rs.length rc] 28) := UV (UV (UB KRR) 0 _) 1 _
  have u5 := (UT W (w.heap.size + 1) 0 (.slice p1 o.length q1)).trans (UT _ (w.heap.size + 1) 1 (.slice ra rs.length rc))
  have sD := ((KeepsOthers.setCell W ⟨w.heap.size + 1, 0, none⟩ (.slice p1 o.length q1)).trans (KeepsOthers.setCell _ ⟨w.heap.size + 1, 1, none⟩ (.slice ra rs.length rc))).same D _ (UB HKK) rfl
  have row5 := (UB ROW).outside u5 (.inr (by omega))
  have on5 := (UB OO).outside u5 (.inr (by omega))
  have bb5 := u5.below (UB BB) (by omega)
  have z5 := u5.size
  generalize (W.setCell ⟨w.heap.size + 1, 0, none⟩ (.slice p1 o.length q1)).setCell ⟨w.heap.size + 1, 1, none⟩ (.slice ra rs.length rc) = w5 at *
  refine ⟨by simp, .inl ⟨_, _, rfl, run_takeDeferred sD, ?_⟩⟩
  have hkk := D7 (grownBy_putObj' w5 D (.deferred none)) (fun r e => by cases e; exact ⟨_, sD, rfl⟩)
  have zp := (grownBy_putObj' w5 D (.deferred none)).size
  exact ⟨_, results_cell_row rfl _ _ (w.heap.size + 1) 28 #[.slice p1 o.length q1, .slice ra rs.length rc] (0, 0) _ rfl (hkk _ _ _ kf) Tryz.underlying28 rfl (by kernel_rfl), _, _, rfl, ⟨w1.heap.size, by omega, by omega, (on5.keptC hkk).wide (by omega) (Nat.le_refl _), (row5.keptC hkk).wide (by omega) (by omega)⟩, bb5.trans (belowK_b (w := w) (Nat.le_refl _) w5 D _ _ (by omega) sD rfl rfl)⟩
 case stop =>
  rintro D c pre W _ _ h _
  exact h.elim
end Go.Proofs.YtfneahdnpmamkaaGreat

namespace Go.Proofs.YtfneahdnpmamkaaGreat
open Go.RowKit Go.Shelf
set_option linter.unusedVariables false
set_option maxHeartbeats 4000000
set_option maxRecDepth 100000

theorem Tj (a : Option Addr) (len cap : Nat) (w : World) : Calls Tryz.prog 83 #[.slice a len cap] w fun e w' => e = .returned (.func (.func 103) #[] #[.pointer (some ⟨w.heap.size, 0, none⟩)]) ∧ w' = w.alloc (.cells #[.slice a len cap] 26) := by
 go_enter Tryz.func83, Tryz.ntmps83
 go_wp2
 go_ret
 exact ⟨rfl, rfl⟩
theorem Qy (Bt : Nat) (w0 w : World) (a : Option Addr) (cap : Nat) (rs : List Rec) (hT : Cl w0 (.slice a rs.length cap) rs) (hsh : ∀ i, i < rs.length → Em (rs.getD i recZ)) (hl : rs.length ≤ 1048576) (hb : Below w0.heap.size w0 w) (hBt : w.cell? ⟨Bt, 0, none⟩ = some (.slice a rs.length cap)) :
  SeqStopsK Fence.wide 4 Tryz.prog 103 #[.pointer (some ⟨Bt, 0, none⟩)] (fun x : RecV w0 => encV x) (Below w0.heap.size) (fun xs => xs.map (·.1.2) = rs) (fun _ => True) rs.length w :=
 fun l J Jx W hW hJ hJx hY h0 => Tu 4 (by omega) l Bt _ w0 a cap rs rfl hT hsh hl J Jx W (hb.trans (hW.mono hb.size)) hJ hY ((hW.cell (p := ⟨Bt, 0, none⟩) (World.block_lt_of_cell? w ⟨Bt, 0, none⟩ hBt)).trans hBt) h0

theorem Qe {vo vr : Value} {o : List (List Int)} {rs : List Rec} {w : World} (h : HasZ w vo vr o rs) (ho1 : o.length ≤ 6) (ho2 : ∀ k, k < o.length → (o.getD k []).length ≤ 15) (hsh : ∀ i, i < rs.length → Em (rs.getD i recZ)) (hlen : rs.length ≤ 1000) :
  Calls Tryz.prog 54 #[.agg #[vo, vr]] w fun e w' => ∃ uo ur, e = .returned (.agg #[uo, ur]) ∧ OwnZ w.heap.size w'.heap.size w' uo ur o rs ∧ Below w.heap.size w w' := by
 obtain ⟨oa, oc, rfl, _⟩ := h.name.form
 obtain ⟨ra, rc, rfl, _⟩ := h.recs.form
 obtain ⟨hsz, k0, r0⟩ := box2 w (.cells #[.slice oa o.length oc, .slice ra rs.length rc] 28) #[.slice none 0 0, .slice none 0 0] 28
 have b0 := Bl w (.cells #[.slice oa o.length oc, .slice ra rs.length rc] 28) (.cells #[.slice none 0 0, .slice none 0 0] 28)
 have HH := UC h
 have HS := UC hsh
 have HO := UC ho2
 have KB := UC k0
 have KR := UC r0
 have zz := VC r0
 clear hsz k0 r0 h hsh ho2
 go_enter Tryz.func54, Tryz.ntmps54
 go_wp2_with fail
 generalize (w.alloc (.cells #[.slice oa o.length oc, .slice ra rs.length rc] 28)).alloc (.cells #[.slice none 0 0, .slice none 0 0] 28) = W at *
 have bd := UX (w := W)
 have bb := UG b0 bd
 replace KB := UC (UE bd (UB KB))
 replace KR := UC (UE bd (UB KR))
 have z0 := bd.size
 clear bd b0
 refine wp_region_held_drew (S := (fun w' => w'.cell? ⟨w.heap.size, 0, none⟩ = some (.slice oa o.length oc) ∧ w'.cell? ⟨w.heap.size, 1, none⟩ = some (.slice ra rs.length rc))) (by kernel_rfl) (UM (UB KB)) (fun hHeld => ?_)
 show wpAnyH _ _ _ _ _ 7 #[false, false, false, false, false, false, false] _ _
 generalize W.drew = W0 at *
 refine tkF (.pointer (some ⟨w.heap.size, 0, none⟩)) rfl (by kernel_rfl) (by kernel_rfl) (fun _ _ _ h => h) ?_ hHeld ?_; (· (intro w hSw; (try dsimp only at hSw); go_simp)); simp only [Act.put, setF, List.setIfInBounds_toArray, List.set_cons_zero, List.set_cons_succ]
 refine tkF (.agg #[.slice oa o.length oc]) rfl (by kernel_rfl) (by kernel_rfl) (fun _ _ _ h => h) ?_ hHeld ?_; (· (intro w hSw; (try dsimp only at hSw); go_simp)); simp only [Act.put, setF, List.setIfInBounds_toArray, List.set_cons_zero, List.set_cons_succ]
 refine tkF (.pointer (some ⟨w.heap.size, 1, none⟩)) rfl (by kernel_rfl) (by kernel_rfl) (fun _ _ _ h => h) ?_ hHeld ?_; (· (intro w hSw; (try dsimp only at hSw); go_simp)); simp only [Act.put, setF, List.setIfInBounds_toArray, List.set_cons_zero, List.set_cons_succ]
 refine tkF (.slice ra rs.length rc) rfl (by kernel_rfl) (by kernel_rfl) (fun _ _ _ h => h) ?_ hHeld ?_; (· (intro w hSw; (try dsimp only at hSw); go_simp)); simp only [Act.put, setF, List.setIfInBounds_toArray, List.set_cons_zero, List.set_cons_succ]
 refine wpAnyH_ready (rs := [4]) (by kernel_rfl) (by simp) (AllReadyH.cons (UY rfl) (fun K hK => ?_) AllReadyH.nil)
 have HK := UC hK
 clear hK hHeld
 go_simp
 refine (Tj ra rs.length rc _).mono ?_
 rintro e w1 ⟨rfl, hw1⟩
 have b1 : Below W0.heap.size W0 w1 := by rw [hw1]; exact UI _
 have k1 : w1.heap[W0.heap.size]? = some (.cells #[.slice ra rs.length rc] 26) := by rw [hw1]; exact heap_alloc_new _ _
 replace KB := UC (UE b1 (UB KB))
 replace KR := UC (UE b1 (UB KR))
 replace bb := UG bb b1
 have z1 := b1.size
 have K1 := UC k1
 clear hw1 b1 k1
 go_simp
 refine (UB HK).out _ _ (UM (UB KB)) (fun hHeld => ?_)
 clear HK K
 try simp only [List.setIfInBounds_toArray, List.set_cons_zero, List.set_cons_succ]
 have HZ := UC ((callsIn_wide (n := 5)).1 (Wf bb ((UB HH).name.below bb) ho1 (UB HO) hlen (enters_of Tryz.func103 (by kernel_rfl) rfl) (Qy W0.heap.size w w1 ra rc rs (UB HH).recs (UB HS) (by omega) bb (US (UB K1)))))
 refine wpAnyH_ready (rs := [5]) (by kernel_rfl) (by simp) (AllReadyH.cons (UY rfl) (fun K hK => ?_) AllReadyH.nil)
 have HK := UC hK
 clear hK hHeld
 go_simp
 refine (UB HZ).mono ?_
 rintro e w2 ⟨uo, ur, rfl, ⟨s, s1, s2, oN, oR⟩, b2⟩
 obtain ⟨pa, pc, rfl, _⟩ := oN.hasL.form
 obtain ⟨qa, qc, rfl, _⟩ := oR.form
 replace KB := UC (UE b2 (UB KB))
 replace KR := UC (UE b2 (UB KR))
 replace bb := UG bb b2
 have z2 := b2.size
 have ON := UC oN
 have OR := UC oR
 clear b2 oN oR HZ
 go_simp
 refine (UB HK).out _ _ (UM (UB KB)) (fun hHeld => ?_)
 clear HK K
 try simp only [List.setIfInBounds_toArray, List.set_cons_zero, List.set_cons_succ]
 have u5 := (UT w2 (w.heap.size + 1) 0 (.slice pa o.length pc)).trans (UT _ (w.heap.size + 1) 1 (.slice qa rs.length qc))
 have KF : Hid (((w2.setCell ⟨w.heap.size + 1, 0, none⟩ (.slice pa o.length pc)).setCell ⟨w.heap.size + 1, 1, none⟩ (.slice qa rs.length qc)).heap[w.heap.size + 1]? = some (.cells #[.slice pa o.length pc, .slice qa rs.length qc] 28)) := UV (UV (UB KR) 0 _) 1 _
 have KB5 := UC (u5.kept (UB KB) (by omega))
 have ON5 := UC ((UB ON).outside u5 (.inr (by omega)))
 have OR5 := UC ((UB OR).outside u5 (.inr (by omega)))
 have bb5 := u5.below bb (by omega)
 have z5 := u5.size
 obtain ⟨d0, d1⟩ := UM (UB KR)
 obtain ⟨f0, f1⟩ := Am (UB KR)
 clear u5
 refine wpAnyH_ready (rs := [6]) (by kernel_rfl) (by simp) (AllReadyH.cons (UY rfl) (fun K hK => ?_) AllReadyH.nil)
 have HK := UC hK
 clear hK hHeld
 go_simp
 refine (UB HK).out _ _ (UM (UB KB5)) (fun hHeld => ?_)
 clear HK K d0 d1 f0 f1 hHeld
 refine wpAnyH_done (by kernel_rfl) ?_ _
 go_wp2_with fail
 refine bodyPost_ret (results_cell_row rfl _ _ (w.heap.size + 1) 28 #[.slice pa o.length pc, .slice qa rs.length qc] (0, 0) _ rfl (UB KF) Tryz.underlying28 rfl (by kernel_rfl)) rfl ?_
 exact ⟨_, _, rfl, ⟨s, by omega, by omega, (UB ON5).wide (by omega) (Nat.le_refl _), (UB OR5).wide (Nat.le_refl _) (by omega)⟩, bb5⟩
end Go.Proofs.YtfneahdnpmamkaaGreat

namespace Go.Proofs.YtfneahdnpmamkaaGreat
open Go.RowKit
set_option linter.unusedVariables false
set_option maxHeartbeats 400000
set_option maxRecDepth 100000

theorem Te (c : Int) : (97 ≤ c ∧ c ≤ 122) ∨ (97 ≤ c ∧ 122 < c) ∨ (c < 97 ∧ 48 ≤ c ∧ c ≤ 57) ∨ (c < 97 ∧ 48 ≤ c ∧ 57 < c ∧ c ≠ 45) ∨ (c < 97 ∧ c < 48 ∧ c = 45) ∨ (c < 97 ∧ c < 48 ∧ c ≠ 45) := by omega

theorem Oz (c : Int) (w : World) :
  Calls Tryz.prog 71 #[.int .u8 c] w fun e w' => e = .returned (.bool (Br c)) ∧ w = w' := by
 rcases Te c with ⟨h1, h2⟩ | ⟨h1, h2⟩ | ⟨h1, h2, h3⟩ | ⟨h1, h2, h3, h4⟩ | ⟨h1, h2, rfl⟩ | ⟨h1, h2, h3⟩
 ·have hs : Br c = true := decide_eq_true (by omega)
  rw [hs]
  go_enter Tryz.func71, Tryz.ntmps71
  go_wp2
  go_ret
  exact ⟨rfl, rfl⟩
 ·have hs : Br c = false := decide_eq_false (by omega)
  rw [hs]
  have h5 : 48 ≤ c := by omega
  have h6 : ¬ c ≤ 57 := by omega
  have h7 : ¬ c ≤ 122 := by omega
  have h8 : (c == 45) = false := by simp; omega
  go_enter Tryz.func71, Tryz.ntmps71
  go_wp2
  go_ret
  exact ⟨rfl, rfl⟩
 ·have hs : Br c = true := decide_eq_true (by omega)
  rw [hs]
  have h5 : ¬ 97 ≤ c := by omega
  go_enter Tryz.func71, Tryz.ntmps71
  go_wp2
  go_ret
  exact ⟨rfl, rfl⟩
 ·have hs : Br c = false := decide_eq_false (by omega)
  rw [hs]
  have h5 : ¬ 97 ≤ c := by omega
  have h6 : ¬ c ≤ 57 := by omega
  have h8 : (c == 45) = false := by simp; omega
  go_enter Tryz.func71, Tryz.ntmps71
  go_wp2
  go_ret
  exact ⟨rfl, rfl⟩
 ·have hs : Br 45 = true := rfl
  rw [hs]
  go_enter Tryz.func71, Tryz.ntmps71
  go_wp2
  go_ret
  exact ⟨rfl, rfl⟩
 ·have hs : Br c = false := decide_eq_false (by omega)
  rw [hs]
  have h5 : ¬ 97 ≤ c := by omega
  have h6 : ¬ 48 ≤ c := by omega
  have h8 : (c == 45) = false := by simp; omega
  go_enter Tryz.func71, Tryz.ntmps71
  go_wp2
  go_ret
  exact ⟨rfl, rfl⟩

theorem Mc {v : Value} {l : List Int} {w : World} (h : Has w v l) :
  Calls Tryz.prog 42 #[v] w fun e w' => e = .returned (.bool (Bd l)) ∧ w = w' := by
 have hbd := h.bound
 unfold maxLen at hbd
 obtain ⟨a, cap, rfl, hL⟩ := h.form
 by_cases h0 : l.length = 0
 ·rw [Es (by omega), h0]
  go_enter Tryz.func42, Tryz.ntmps42
  go_wp2
  go_ret
  exact ⟨rfl, rfl⟩
 ·by_cases h1 : 15 < l.length
  ·rw [Es (by omega)]
   generalize hn : l.length = n at *
   have h3 : ((n : Int) == 0) = false := by simp; omega
   go_enter Tryz.func42, Tryz.ntmps42
   go_wp2
   go_ret
   exact ⟨rfl, rfl⟩
  ·have h2 : l.length ≤ 15 := by omega
   have hyes := UC (fun (hs : ∀ j, j < l.length → Br (l.getD j 0) = true) => Ln (l := l) (by omega) h2 hs)
   have hno := UC (fun (j : Nat) (hj : j < l.length) (hs : Br (l.getD j 0) = false) => Jn hj hs)
   generalize hok : Bd l = ok at *
   clear hok
   generalize hn : l.length = n at *
   have HN := UC hn
   clear hn
   have h3 : ((n : Int) == 0) = false := by simp; omega
   go_enter Tryz.func42, Tryz.ntmps42
   go_wp2
   go_loop [15] (fun i => ∃ k : Nat, k ≤ n ∧ i = .int .i64 k ∧ Hid (∀ j, j < k → Br (l.getD j 0) = true)) (fun i => n - (intOf i).toNat)
   case atStart => exact ⟨0, Nat.zero_le _, rfl, UC (fun j hj => absurd hj (Nat.not_lt_zero _))⟩
   case round =>
    obtain ⟨k, hk, rfl, hall⟩ := hrel
    by_cases hlt : k < n
    ·obtain ⟨b, off, rfl, hbl, hc⟩ := hL.here (k := k) (by rw [UB HN]; exact hlt)
     have hone := UC (fun (hs : Br (l.getD k 0) = true) => (show ∀ j, j < k + 1 → Br (l.getD j 0) = true from fun j hj => by
      by_cases e : j = k
      ·subst e; exact hs
      ·exact UB hall j (by omega)))
     have hnok := UC (fun (hs : Br (l.getD k 0) = false) => UB hno k hlt hs)
     generalize hx : l.getD k 0 = x at *
     go_wp2_with fail
     refine (Oz x _).mono ?_
     rintro e w1 ⟨rfl, rfl⟩
     cases hs : Br x with
     | true =>
      go_wp2
      exact ⟨⟨k + 1, by omega, by go_num, UC (UB hone hs)⟩, by simp [intOf]; omega⟩
     | false =>
      have hq := UB hnok hs
      subst hq
      go_wp2
      go_ret
      exact ⟨rfl, rfl⟩
    ·obtain rfl : k = n := by omega
     have hq := UB hyes (UB hall)
     subst hq
     go_wp2
     go_ret
     exact ⟨rfl, rfl⟩
set_option maxHeartbeats 400000 in
set_option maxRecDepth 100000 in
theorem VP {v : Value} {n : List (List Int)} {w : World} (h : HasL w v n) :
  Calls Tryz.prog 18 #[.agg #[v]] w fun e w' => e = .returned (.bool (Ag n)) ∧ Below w.heap.size w w' := by
 obtain ⟨a, cap, rfl, hl, hm⟩ := h.form
 unfold maxLen at hm
 by_cases h1 : 6 < n.length
 ·rw [Ly h1]
  have H := UC h
  clear h
  generalize hn : n.length = m at *
  have HN := UC hn
  clear hn
  go_enter Tryz.func18, Tryz.ntmps18
  go_wp2
  go_ret
  exact ⟨rfl, UI _⟩
 ·have h2 : n.length ≤ 6 := by omega
  have hA := h.below (UI (.cells #[.slice a n.length cap] 25))
  have H := UC h
  clear h
  have hyes := UC (fun (hs : ∀ j, j < n.length → Bd (n.getD j []) = true) => Ja (n := n) h2 hs)
  have hno := UC (fun (j : Nat) (hj : j < n.length) (hs : Bd (n.getD j []) = false) => Js hj hs)
  generalize hok : Ag n = ok at *
  clear hok
  generalize hn : n.length = m at *
  have HN := UC hn
  clear hn
  go_enter Tryz.func18, Tryz.ntmps18
  go_wp2
  go_loop [12] (fun i => ∃ k : Nat, k ≤ m ∧ i = .int .i64 k ∧ Hid (∀ j, j < k → Bd (n.getD j []) = true)) (fun i => m - (intOf i).toNat)
  case atStart => exact ⟨0, Nat.zero_le _, rfl, UC (fun j hj => absurd hj (Nat.not_lt_zero _))⟩
  case round =>
   obtain ⟨k, hk, rfl, hall⟩ := hrel
   by_cases hlt : k < m
   ·obtain ⟨b, off, u, rfl, hbl, hc, hu⟩ := hA.here (k := k) (by rw [UB HN]; exact hlt)
    have hone := UC (fun (hs : Bd (n.getD k []) = true) => (show ∀ j, j < k + 1 → Bd (n.getD j []) = true from fun j hj => by
      by_cases e : j = k
      ·subst e; exact hs
      ·exact UB hall j (by omega)))
    have hnok := UC (fun (hs : Bd (n.getD k []) = false) => UB hno k hlt hs)
    generalize hx : n.getD k [] = x at *
    have HU := UC hu
    obtain ⟨ua, uc, rfl, _⟩ := hu.form
    clear hu
    go_wp2_with fail
    refine (Mc (UB HU)).mono ?_
    rintro e w1 ⟨rfl, rfl⟩
    cases hs : Bd x with
    | true =>
     go_wp2
     exact ⟨⟨k + 1, by omega, by go_num, UC (UB hone hs)⟩, by simp [intOf]; omega⟩
    | false =>
     have hq := UB hnok hs
     subst hq
     go_wp2
     go_ret
     exact ⟨rfl, UI _⟩
   ·obtain rfl : k = m := by omega
    have hq := UB hyes (UB hall)
    subst hq
    go_wp2
    go_ret
    exact ⟨rfl, UI _⟩
set_option maxHeartbeats 400000
set_option maxRecDepth 100000

theorem Cz {n m : Int} (w : World) (h0 : 0 ≤ n) (h1 : n ≤ m) : Calls Tryz.prog 92 #[.int .i64 n, .int .i64 m] w fun e w' => e = .returned (.bool true) ∧ w = w' := by
 go_enter Tryz.func92, Tryz.ntmps92
 go_wp2
 go_ret
 exact ⟨rfl, rfl⟩

theorem Qs {n m : Int} (w : World) (h : n < 0 ∨ m < n) : Calls Tryz.prog 92 #[.int .i64 n, .int .i64 m] w fun e w' => e = .returned (.bool false) ∧ w = w' := by
 by_cases h0 : n < 0
 ·go_enter Tryz.func92, Tryz.ntmps92
  go_wp2
  go_ret
  exact ⟨rfl, rfl⟩
 ·have h1 : m < n := by omega
  have h2 : decide (n ≤ m) = false := decide_eq_false (by omega)
  go_enter Tryz.func92, Tryz.ntmps92
  go_wp2
  go_ret
  exact ⟨rfl, rfl⟩
theorem N7 (n m : Int) (w : World) : Calls Tryz.prog 92 #[.int .i64 n, .int .i64 m] w fun e w' => e = .returned (.bool (decide (0 ≤ n ∧ n ≤ m))) ∧ w = w' := by
 by_cases h : 0 ≤ n ∧ n ≤ m
 ·rw [decide_eq_true h]; exact Cz w h.1 h.2
 ·rw [decide_eq_false h]; exact Qs w (by omega)
end Go.Proofs.YtfneahdnpmamkaaGreat
