/-
  Contract of the program's set: what a book says of a name and a type, in order, as a row of its own. Contracts of the program's Under. Contracts of the program's mayBeIn and mayFollow.
-/
import Derived.Test.YtmlcmkoefelolaaGreatSetOfG22
import Derived.Test.YtmlcmkoefelolaaGreatSetOfG31
import Derived.Test.YtmlcmkoefelolaaGreatSetOfG32
import Derived.Test.YtmlcmkoefelolaaGreatSetOfG29
import Derived.Test.YtmlcmkoefelolaaGreatSetOfG13
import Derived.Test.YtmlcmkoefelolaaGreatSetOfG16
import Derived.Test.YtmlcmkoefelolaaGreatSetOfG07
import Derived.Test.YtmlcmkoefelolaaGreatSetOfG30
namespace Go.Proofs.YtmlcmkoefelolaaGreat
open Go.RowKit Go.Shelf
set_option linter.unusedVariables false

/-- What stands between two rounds. -/
def GotS (w w0 : World) (mb : Option Nat) (Bt : Nat) (t : Int) (pre : List (RecV w0)) (W : World) : Prop :=
 (∃ vr, W.heap[w.heap.size + 2]? = some (.cells #[vr] 30) ∧ RowO (w.heap.size + 3) W.heap.size 52 44 5 3 W vr ((pre.map (·.1.2)).filter (selT t))) ∧ W.heap[w.heap.size + 1]? = some (.cells #[.int .i64 t] 3) ∧ W.heap[Bt]? = some (.cells #[.map mb] 115) ∧ Below w.heap.size w W
theorem gotS_own (w w0 : World) (mb : Option Nat) (Bt : Nat) (t : Int) (B : Nat) (hB : w.heap.size ≤ B) : OwnFrom B (GotS w w0 mb Bt t) := by
 intro s W W' row ⟨⟨vr, h1, h2⟩, h3, h4, hb⟩ hg hr
 have hk := keptC_of hg (fun r e => (hr r e).2)
 exact ⟨⟨vr, hk _ _ _ h1, (h2.keptC hk).wide (Nat.le_refl _) hg.size⟩, hk _ _ _ h3, hk _ _ _ h4, hb.grown hg hb.size (fun k e => by have := (hr k e).1; omega)⟩
theorem look_opt {n0 : Nat} {w w' : World} {b : Nat} {B : Bk} (hB : BookM n0 w b B) (hb : Below w.heap.size w w') {kn : ByteArray} (hk : kn.size ≤ maxLen) : ∃ mb, (Instr.lookup 79 (.map (some b)) (.string kn) false).run Tryz.prog w' = .ok (.map mb) w' ∧ OptPage w mb ((lookA kn B).getD []) := by
 obtain ⟨_, ps, hM, hT, _⟩ := hB
 rcases two_look (k := kn) hT with ⟨l1, l2⟩ | ⟨v, P, l1, l2, ⟨p, rfl, _, _, q3⟩, _⟩
 ·exact ⟨none, look_none (hM.below hb) hk l1, .inl ⟨rfl, by rw [l2]; rfl⟩⟩
 ·exact ⟨some p, look_page (hM.below hb) hk l1, .inr ⟨p, rfl, by rw [l2]; exact q3⟩⟩

set_option maxHeartbeats 2000000 in
set_option maxRecDepth 100000 in
theorem set_in {n0 b : Nat} {B : Bk} {v : Value} {n : List (List Int)} (t : Int) {w : World} (hB : BookM n0 w b B) (hn : HasL w v n) (hs : ShortN n) (hl : ((lookA (strOfNums (keyN n)) B).getD []).length ≤ 1000) (hsh : ∀ x ∈ (lookA (strOfNums (keyN n)) B).getD [], ShortR x.2) :
  CallsIn Fence.wide 7 Tryz.prog 52 #[.map (some b), .agg #[v], .int .i64 t] w fun e w' => ∃ ur, e = .returned ur ∧ RowO w.heap.size w'.heap.size 52 44 5 3 w' ur ((sortP ((lookA (strOfNums (keyN n)) B).getD [])).filter (selT t)) ∧ Below w.heap.size w w' := by
 obtain ⟨a, cap, rfl, _⟩ := hn.form
 have hkn := keyN_size hs
 have hsz1 : (w.alloc (.cells #[.slice a n.length cap] 32)).heap.size = w.heap.size + 1 := World.size_alloc w _
 obtain ⟨hsz, k0, r0⟩ := box2 w (.cells #[.slice a n.length cap] 32) #[.int .i64 t] 3
 have b0 := below2 w (.cells #[.slice a n.length cap] 32) (.cells #[.int .i64 t] 3)
 have b1 := below_alloc (w := (w.alloc (.cells #[.slice a n.length cap] 32)).alloc (.cells #[.int .i64 t] 3)) (.cells #[.slice none 0 0] 30)
 have o0 := heap_alloc_new ((w.alloc (.cells #[.slice a n.length cap] 32)).alloc (.cells #[.int .i64 t] 3)) (.cells #[.slice none 0 0] 30)
 rw [hsz] at o0
 have bb := below_next b0 b1
 have KT := hide (block_kept b1 r0)
 have KO := hide o0
 have c0 := block_one (block_kept b1 k0)
 have HN := hide (nameKey_in (hn.below bb) hs.1 hs.2)
 have HB := hide hB
 have zo := block_lt o0
 clear hsz hsz1 k0 r0 o0 b0 b1 hB hn
 generalize hKN : strOfNums (keyN n) = kn at *
 generalize hPP : (lookA kn B).getD [] = P at *
 have HPP := hide hPP
 clear hKN hPP
 refine callsIn_of_wp_marks Tryz.func52 rfl trivial ?_ rfl
 simp only [Tryz.ntmps52, List.size_toArray, List.length_cons, List.length_nil, Nat.reduceAdd, Nat.reduceSub, Array.replicate_succ, Array.replicate_zero, List.push_toArray, List.append_toArray, List.nil_append, List.cons_append]
 gi_wp2_with (first
  | (refine ⟨trivial, ?_⟩; gi_at_call 96; refine (callsIn_wide.2 (callsIn_wide.1 (unhide HN))).mono ?_; rintro e w1 ⟨rfl, b1⟩; obtain ⟨mb, hlook, hOP⟩ := look_opt (unhide HB) (below_next bb b1) hkn)
  | (refine ⟨trivial, ?_⟩; gi_at_call 95; refine (callsIn_wide.2 (asc_any _ _)).mono ?_; rintro e w2 ⟨rfl, hw2⟩))
 have bz := below_alloc (w := w1) (.cells #[.map mb] 115)
 have kz := heap_alloc_new w1 (.cells #[.map mb] 115)
 have bb1 := below_next bb b1
 have hB0 := below_next bb1 bz
 have kt := block_kept bz (block_kept b1 (unhide KT))
 have ko := block_kept bz (block_kept b1 (unhide KO))
 have zB := block_lt kz
 have z1 := b1.size
 clear hw2 hlook c0 b1 bz bb HN KT KO HB
 generalize hW0 : w1.alloc (.cells #[.map mb] 115) = W0 at *
 clear hW0
 have hOP' : OptPage w mb P := by rw [← unhide HPP]; exact hOP
 have zw3 : w.heap.size + 3 ≤ w1.heap.size := by omega
 refine wpIn_rangeFunc_ownH rfl (by omega) (gf := 130) (lb := #[.pointer (some ⟨w1.heap.size, 0, none⟩)]) rfl trivial (enters_of Tryz.func130 (by kernel_rfl) rfl) (asc_stops w1.heap.size w W0 mb P hOP' hl hsh hB0 kz) (fun h k => kpS_t h k) (kpS_b (w := W0) hB0.size) (Below.refl _ _) (fun _ => rfl)
  (GotS w w mb w1.heap.size t) (fun _ _ _ => False) (gotS_own w w mb _ t _ hB0.size) (fun _ _ _ _ _ h _ _ => h)
  ⟨⟨.slice none 0 0, ko, RowO.nil _ _ _ _ _ _ _⟩, kt, kz, hB0⟩
  (fun x a' W => ∃ Bx, w1.heap.size < Bx ∧ W.heap[Bx]? = some (.cells (cellsV x) 52) ∧ a' = { tmps := #[.map (some b), .agg #[.slice a n.length cap], .int .i64 t, undef, .pointer (some ⟨w.heap.size, 0, none⟩), .pointer (some ⟨w.heap.size + 1, 0, none⟩), .slice none 0 0, .pointer (some ⟨w.heap.size + 1 + 1, 0, none⟩), .pointer (some ⟨Bx, 0, none⟩), .map (some b), .agg #[.slice a n.length cap], .string kn, .map mb, .func (.func 130) #[] #[.pointer (some ⟨w1.heap.size, 0, none⟩)], .agg (cellsV x), undef, undef, undef, undef, undef, undef, undef, undef, undef, undef, undef, undef, undef, undef], defers := [] })
  (fun x a' _ W W' row ⟨Bx, q1, q2, q3⟩ hg hr => ⟨Bx, q1, keptC_of hg (fun r e => (hr r e).2) _ _ _ q2, q3⟩) ?assign ?body ?done ?stop
 case assign =>
  rintro lr pre x W K hi hK
  have hsem := Oper.semAt_some lr
  obtain ⟨⟨⟨vn, vt, vx, vi⟩, r⟩, hRR⟩ := x
  have hR := hRR.1
  have hS := hRR.2
  dsimp only at hR hS hRR
  obtain ⟨na, nc, rfl, _⟩ := hR.name.form
  obtain ⟨ta, tc, rfl, _⟩ := hR.to.form
  obtain ⟨xa, xc, rfl, _⟩ := hR.text.form
  obtain ⟨ia, ic, rfl, _⟩ := hR.nums.form
  have zW := block_lt hi.2.2.1
  have ba := below_alloc (w := W) (.cells #[.slice na r.name.length nc, .int .i64 r.type, .int .i64 r.ttl, .int .i64 r.addr, .slice ta r.to.length tc, .slice xa r.text.length xc, .slice ia r.nums.length ic] 52)
  have hi2 := gotS_own w w mb w1.heap.size t w.heap.size (Nat.le_refl _) pre W _ none hi (World.grownBy_alloc W (.cells #[.slice na r.name.length nc, .int .i64 r.type, .int .i64 r.ttl, .int .i64 r.addr, .slice ta r.to.length tc, .slice xa r.text.length xc, .slice ia r.nums.length ic] 52) none) (fun r e => by cases e)
  have kx := heap_alloc_new W (.cells #[.slice na r.name.length nc, .int .i64 r.type, .int .i64 r.ttl, .int .i64 r.addr, .slice ta r.to.length tc, .slice xa r.text.length xc, .slice ia r.nums.length ic] 52)
  have HK := hide hK
  have H2 := hide hi2
  have KX := hide kx
  have BA := hide ba
  clear hK hi2 kx ba hi
  unfold encV
  gi_wp2
  exact unhide HK _ _ ((KeepsOthers.alloc _ _).from _) ⟨⟨(unhide BA).mono (by omega), fun c t q => block_kept (unhide BA) q⟩, fun g c q => block_kept (unhide BA) q⟩ (unhide H2) ⟨W.heap.size, zW, unhide KX, rfl⟩
 case body =>
  rintro lr pre x a' W hl' ⟨rr, hrr⟩ ⟨⟨vr, kZ, hrow⟩, kT, kB, hB⟩ ⟨Bx, hBx, kX, rfl⟩ hlt
  have hsem := Oper.semAt_some lr
  obtain ⟨⟨⟨vn, vt, vx, vi⟩, r⟩, hRR⟩ := x
  have hR := hRR.1
  have hS := hRR.2
  dsimp only at hR hS hRR
  obtain ⟨na, nc, rfl, _⟩ := hR.name.form
  obtain ⟨ta, tc, rfl, _⟩ := hR.to.form
  obtain ⟨xa, xc, rfl, _⟩ := hR.text.form
  obtain ⟨ia, ic, rfl, _⟩ := hR.nums.form
  obtain ⟨ra, rc, rfl, _⟩ := hrow.form
  replace kX : W.heap[Bx]? = some (.cells #[.slice na r.name.length nc, .int .i64 r.type, .int .i64 r.ttl, .int .i64 r.addr, .slice ta r.to.length tc, .slice xa r.text.length xc, .slice ia r.nums.length ic] 52) := kX
  have hlp : ((pre.map (·.1.2)).filter (selT t)).length ≤ 1000 := by
   refine Nat.le_trans (List.length_filter_le _ _) ?_
   rw [List.length_map]
   rw [keysP_length] at hlt
   omega
  generalize hsel : ((pre.map (·.1.2)).filter (selT t)) = sel at *
  have HSEL := hide hsel
  clear hsel
  generalize hnl : sel.length = nl at *
  have HNL := hide hnl
  clear hnl
  have zT := block_lt kT
  have zX := block_lt kX
  have zB2 := block_lt kB
  unfold cellsV
  dsimp only
  cases hst : selT t r with
  | false =>
   have e255 : (t == 255) = false := by
    unfold selT at hst
    rw [Bool.or_eq_false_iff] at hst
    exact hst.1
   have ett : (r.type == t) = false := by
    unfold selT at hst
    rw [Bool.or_eq_false_iff] at hst
    exact hst.2
   have ct := block_one kT
   obtain ⟨d0, d1, d2, d3, d4, d5, d6⟩ := cells7 kX
   have FIN : Hid (GotS w w mb w1.heap.size t (pre ++ [⟨((.slice na r.name.length nc, .slice ta r.to.length tc, .slice xa r.text.length xc, .slice ia r.nums.length ic), r), hRR⟩]) W) := ⟨⟨_, kZ, by rw [List.map_append, List.filter_append, unhide HSEL]; simp [hst]; rw [unhide HNL] at *; exact hrow⟩, kT, kB, hB⟩
   clear hst kZ kT kB hB hrow kX hR hS HNL HSEL hrr kz kt ko hB0
   gi_wp2
   exact ⟨KeepsFrom.refl _ _, ⟨⟨Below.refl _ _, fun _ _ q => q⟩, fun _ _ q => q⟩, unhide FIN⟩
  | true =>
   have HST := hide hst
   have ct := block_one kT
   obtain ⟨d0, d1, d2, d3, d4, d5, d6⟩ := cells7 kX
   have bd := below_drew (w := W)
   have KZ := hide (block_kept bd kZ)
   have KX := hide (block_kept bd kX)
   have KTT := hide (block_kept bd kT)
   have KBB := hide (block_kept bd kB)
   have KB0 := hide kB
   have ROW := hide (hrow.below bd)
   have BB := hide (below_next hB bd)
   have HR := hide (hR.below (below_next hB bd))
   have HSS := hide hS
   have zd := bd.size
   have zw := hB.size
   have BD := hide bd
   have hor : (t == 255) = true ∨ ((t == 255) = false ∧ (r.type == t) = true) := by
    unfold selT at hst
    cases h255 : (t == 255) with
    | true => exact .inl rfl
    | false =>
     rw [h255, Bool.false_or] at hst
     exact .inr ⟨rfl, hst⟩
   clear hst kZ kX kT kB hrow hB hR hS bd hrr kz kt ko hB0
   rcases hor with e255 | ⟨e255, ett⟩
   ·gi_wp2
    clear d0 d1 d2 d3 d4 d5 d6 ct
    refine regionIn_any (by rintro ⟨a', w', hq⟩; exact hq) (by kernel_rfl) (by kernel_rfl) ?_
    show wpAny _ _ _ _ _ _ _ W.drew
    generalize W.drew = Wd at *
    have cZ : Wd.cell? ⟨w.heap.size + 1 + 1, 0, none⟩ = some (.slice ra nl rc) := block_one (unhide KZ)
    obtain ⟨d0, d1, d2, d3, d4, d5, d6⟩ := cells7 (unhide KX)
    refine any_takeT (i := 0) (oi := ⟨some 23, Op.load 30 (.tmp 7), 30, "l05_zone.go:125", #[], none⟩) (v := .slice ra nl rc) (fun w' => w'.cell? ⟨w.heap.size + 1 + 1, 0, none⟩ = some (.slice ra nl rc)) rfl (by kernel_rfl) (by kernel_rfl) (by kernel_rfl) (fun _ _ _ h => h) (Or.inl ⟨by rfl, fun w' hw' => by go_simp⟩) cZ ?_
    try simp only [Act.put, List.setIfInBounds_toArray, List.set_cons_zero, List.set_cons_succ]
    refine anyT_ready (js := [1]) (by kernel_rfl) (by simp) (AllT.cons (o := ⟨some 24, Op.load 52 (.tmp 8), 52, "l05_zone.go:125", #[], none⟩) rfl (fun K hK => ?_) AllT.nil)
    have HK := hide hK
    clear hK
    go_simp
    refine unhide HK _ _ cZ ?_
    clear HK K d0 d1 d2 d3 d4 d5 d6
    try simp only [Act.put, List.setIfInBounds_toArray, List.set_cons_zero, List.set_cons_succ]
    refine anyT_ready (js := [2]) (by kernel_rfl) (by simp) (AllT.cons (o := ⟨some 25, Op.call { callee := Callee.value (Operand.func 97), args := #[Operand.tmp 24], argTypes := #[52] }, 52, "l05_zone.go:125", #[⟨1, .data⟩], none⟩) rfl (fun K hK => ?_) AllT.nil)
    have HK := hide hK
    clear hK
    go_simp
    refine (copyRr_own (unhide HR) (unhide HSS)).mono ?_
    rintro e w2 ⟨un, ut, ux, ui, rfl, oR, b2⟩
    obtain ⟨pa, pc, rfl, _⟩ := oR.hasR.name.form
    obtain ⟨qa, qc, rfl, _⟩ := oR.hasR.to.form
    obtain ⟨ya, yc, rfl, _⟩ := oR.hasR.text.form
    obtain ⟨za, zc, rfl, _⟩ := oR.hasR.nums.form
    have OR := hide oR
    have B2 := hide b2
    have z2 := b2.size
    have cZ2 : w2.cell? ⟨w.heap.size + 1 + 1, 0, none⟩ = some (.slice ra nl rc) := block_one (block_kept b2 (unhide KZ))
    clear oR b2
    go_simp
    refine unhide HK _ _ cZ2 ?_
    clear HK K cZ cZ2
    try simp only [Act.put, List.setIfInBounds_toArray, List.set_cons_zero, List.set_cons_succ]
    have b3 := below_alloc (w := w2) (.cells #[.slice pa r.name.length pc, .int .i64 r.type, .int .i64 r.ttl, .int .i64 r.addr, .slice qa r.to.length qc, .slice ya r.text.length yc, .slice za r.nums.length zc] 52)
    have g3 := heap_alloc_new w2 (.cells #[.slice pa r.name.length pc, .int .i64 r.type, .int .i64 r.ttl, .int .i64 r.addr, .slice qa r.to.length qc, .slice ya r.text.length yc, .slice za r.nums.length zc] 52)
    have k3 := block_kept b3 (block_kept (unhide B2) (unhide KZ))
    have row3 := ((unhide ROW).below (unhide B2)).below b3
    have OR3 := hide ((unhide OR).below b3)
    have kt3 := block_kept b3 (block_kept (unhide B2) (unhide KTT))
    have kb3 := block_kept b3 (block_kept (unhide B2) (unhide KBB))
    have bb3 := below_next (below_next (unhide BB) (unhide B2)) b3
    have z3 := b3.size
    have B3 := hide b3
    have G3 := hide g3
    have K3 := hide k3
    have ROW3 := hide row3
    have KT3 := hide kt3
    have KB3 := hide kb3
    have BB3 := hide bb3
    have cZ3 : (w2.alloc (.cells #[.slice pa r.name.length pc, .int .i64 r.type, .int .i64 r.ttl, .int .i64 r.addr, .slice qa r.to.length qc, .slice ya r.text.length yc, .slice za r.nums.length zc] 52)).cell? ⟨w.heap.size + 1 + 1, 0, none⟩ = some (.slice ra nl rc) := block_one k3
    clear b3 g3 k3 row3 kt3 kb3 bb3 ROW KTT KBB KX HR HSS OR
    refine anyT_ready (js := [3]) (by kernel_rfl) (by simp) (AllT.cons (o := ⟨some 26, Op.buildSlice 30 1 #[(0, Operand.tmp 25)], 30, "l05_zone.go:125", #[⟨2, .data⟩], none⟩) rfl (fun K hK => ?_) AllT.nil)
    have HK := hide hK
    clear hK
    go_simp
    refine unhide HK _ _ cZ3 ?_
    clear HK K cZ3
    try simp only [Act.put, List.setIfInBounds_toArray, List.set_cons_zero, List.set_cons_succ]
    generalize w2.alloc (.cells #[.slice pa r.name.length pc, .int .i64 r.type, .int .i64 r.ttl, .int .i64 r.addr, .slice qa r.to.length qc, .slice ya r.text.length yc, .slice za r.nums.length zc] 52) = w3 at *
    refine AnyT.over _ _ _ _ (by kernel_rfl) ?_
    refine wpAny_ready (rs := [4]) (by kernel_rfl) (by simp) (AllReady.cons (o := ⟨some 27, Op.call { callee := Callee.builtin Builtin.append, args := #[Operand.tmp 23, Operand.tmp 26], argTypes := #[30, 30] }, 30, "l05_zone.go:125", #[⟨0, .data⟩, ⟨3, .data⟩, ⟨2, .chain⟩], none⟩) rfl (fun K hK => ?_) AllReady.nil)
    have HK := hide hK
    clear hK
    obtain ⟨xs3, f3, gf3, hx3, hq3, hh3⟩ := unhide ROW3
    rw [unhide HNL] at hx3
    refine step_append_rec rfl (.tmp 23) (.tmp 26) 30 52 rfl Tryz.underlying30 _ info_rrZ rfl (w.heap.size + 3) (.slice ra nl rc) nl (by simp [Act.eval]) w2.heap.size [.slice pa r.name.length pc, .int .i64 r.type, .int .i64 r.ttl, .int .i64 r.addr, .slice qa r.to.length qc, .slice ya r.text.length yc, .slice za r.nums.length zc] (by simp [Act.eval]) ⟨xs3, hx3⟩ (unhide G3) rfl (by simp [Value.oneCell']) (by omega) (by omega) ?_
    intro v4 w4 ho4 g4 hw4
    have row4 := RowO.snoc (unhide ROW3) (C := Wd.heap.size) (D := w2.heap.size) zd z3 (unhide OR3) (by omega) g4 hw4 (by rw [unhide HNL]; exact ho4)
    have u4 : Outside (w.heap.size + 3) w3.heap.size w3 w4 := outside_grown g4 (fun k hk => World.ownsRow.lt hx3 k hk)
    have k4 := block_grown g4 (unhide K3) (row_type hx3 (unhide K3) (by decide))
    have kt4 := block_grown g4 (unhide KT3) (row_type hx3 (unhide KT3) (by decide))
    have kb4 := block_grown g4 (unhide KB3) (row_type hx3 (unhide KB3) (by decide))
    have kf := keepsFrom_of (B := W0.heap.size) (j := 0) (v4 := v4) (unhide BD) (unhide B2) (unhide B3) g4 (fun k o h1 h2 => row_notC hx3 h1 h2) k4
    have u5 := outside_set w4 (w.heap.size + 2) 0 v4
    have z4 := u4.size
    have z5 := u5.size
    have bel : Below w.heap.size W (w4.setCell ⟨w.heap.size + 2, 0, none⟩ v4) := u5.belowAt (u4.belowAt (((unhide BD).mono (by omega)).trans (((unhide B2).mono (by omega)).trans ((unhide B3).mono (by omega)))) (by omega) (by omega)) (by omega) (by omega)
    have bb5 : Below w.heap.size w (w4.setCell ⟨w.heap.size + 2, 0, none⟩ v4) := u5.below (u4.below (unhide BB3) (by omega)) (by omega)
    have FIN : Hid (GotS w w mb w1.heap.size t (pre ++ [⟨((.slice na r.name.length nc, .slice ta r.to.length tc, .slice xa r.text.length xc, .slice ia r.nums.length ic), r), hRR⟩]) (w4.setCell ⟨w.heap.size + 2, 0, none⟩ v4)) := ⟨⟨v4, block_setAt k4 0 v4, by rw [List.map_append, List.filter_append, unhide HSEL, List.map_cons, List.map_nil, List.filter_cons_of_pos (unhide HST), List.filter_nil]; exact (row4.outside u5 (.inr (Nat.le_refl _))).wide (Nat.le_refl _) z5⟩, u5.kept kt4 (by omega), u5.kept kb4 (by omega), bb5⟩
    have KPS : Hid (KpS w.heap.size w1.heap.size W (w4.setCell ⟨w.heap.size + 2, 0, none⟩ v4)) := by
     refine ⟨⟨bel, fun c' t' q => ?_⟩, fun g c' q => ?_⟩
     ·rw [unhide KB0] at q
      cases q
      exact u5.kept kb4 (by omega)
     ·have q3 := block_kept (unhide B3) (block_kept (unhide B2) (block_kept (unhide BD) q))
      have q4 := block_grown g4 q3 (row_type hx3 q3 (by decide))
      refine block_grown (grown_setCell w4 ⟨w.heap.size + 2, 0, none⟩ v4) q4 ?_
      intro e
      simp only [Option.some.injEq] at e
      rw [← e, k4] at q4
      cases q4
    have KF := hide kf
    have c4 : w4.cell? ⟨w.heap.size + 1 + 1, 0, none⟩ = some (.slice ra nl rc) := block_one k4
    have f4 : w4.frozen? ⟨w.heap.size + 1 + 1, 0, none⟩ = false := block_frozen k4 0
    obtain ⟨v4a, v4c, hv4, _⟩ := row4.form
    rw [List.length_append, unhide HNL] at hv4
    replace hv4 : v4 = .slice v4a (nl + 1) v4c := hv4
    subst hv4
    clear row4 u4 k4 kt4 kb4 kf u5 bel bb5 ho4 g4 hw4 hx3 hq3 hh3 ROW3 OR3 KT3 KB3 BB3 G3 K3 B2 B3 BD BB
    refine unhide HK _ _ ?_
    clear HK K
    try simp only [Act.put, List.setIfInBounds_toArray, List.set_cons_zero, List.set_cons_succ]
    refine wpAny_ready (rs := [5]) (by kernel_rfl) (by simp) (AllReady.cons (o := ⟨none, Op.store 30 (.tmp 7) (.tmp 27), 0, "l05_zone.go:125", #[⟨4, .data⟩, ⟨4, .chain⟩, ⟨0, .phase⟩, ⟨1, .phase⟩, ⟨2, .phase⟩, ⟨3, .phase⟩, ⟨4, .phase⟩], none⟩) rfl (fun K hK => ?_) AllReady.nil)
    have HK := hide hK
    clear hK
    go_simp
    refine unhide HK _ _ ?_
    clear HK K
    refine wpAny_done (by kernel_rfl) ?_ _
    exact ⟨unhide KF, unhide KPS, unhide FIN⟩
   ·gi_wp2
    clear d0 d1 d2 d3 d4 d5 d6 ct
    refine regionIn_any (by rintro ⟨a', w', hq⟩; exact hq) (by kernel_rfl) (by kernel_rfl) ?_
    show wpAny _ _ _ _ _ _ _ W.drew
    generalize W.drew = Wd at *
    have cZ : Wd.cell? ⟨w.heap.size + 1 + 1, 0, none⟩ = some (.slice ra nl rc) := block_one (unhide KZ)
    obtain ⟨d0, d1, d2, d3, d4, d5, d6⟩ := cells7 (unhide KX)
    refine any_takeT (i := 0) (oi := ⟨some 23, Op.load 30 (.tmp 7), 30, "l05_zone.go:125", #[], none⟩) (v := .slice ra nl rc) (fun w' => w'.cell? ⟨w.heap.size + 1 + 1, 0, none⟩ = some (.slice ra nl rc)) rfl (by kernel_rfl) (by kernel_rfl) (by kernel_rfl) (fun _ _ _ h => h) (Or.inl ⟨by rfl, fun w' hw' => by go_simp⟩) cZ ?_
    try simp only [Act.put, List.setIfInBounds_toArray, List.set_cons_zero, List.set_cons_succ]
    refine anyT_ready (js := [1]) (by kernel_rfl) (by simp) (AllT.cons (o := ⟨some 24, Op.load 52 (.tmp 8), 52, "l05_zone.go:125", #[], none⟩) rfl (fun K hK => ?_) AllT.nil)
    have HK := hide hK
    clear hK
    go_simp
    refine unhide HK _ _ cZ ?_
    clear HK K d0 d1 d2 d3 d4 d5 d6
    try simp only [Act.put, List.setIfInBounds_toArray, List.set_cons_zero, List.set_cons_succ]
    refine anyT_ready (js := [2]) (by kernel_rfl) (by simp) (AllT.cons (o := ⟨some 25, Op.call { callee := Callee.value (Operand.func 97), args := #[Operand.tmp 24], argTypes := #[52] }, 52, "l05_zone.go:125", #[⟨1, .data⟩], none⟩) rfl (fun K hK => ?_) AllT.nil)
    have HK := hide hK
    clear hK
    go_simp
    refine (copyRr_own (unhide HR) (unhide HSS)).mono ?_
    rintro e w2 ⟨un, ut, ux, ui, rfl, oR, b2⟩
    obtain ⟨pa, pc, rfl, _⟩ := oR.hasR.name.form
    obtain ⟨qa, qc, rfl, _⟩ := oR.hasR.to.form
    obtain ⟨ya, yc, rfl, _⟩ := oR.hasR.text.form
    obtain ⟨za, zc, rfl, _⟩ := oR.hasR.nums.form
    have OR := hide oR
    have B2 := hide b2
    have z2 := b2.size
    have cZ2 : w2.cell? ⟨w.heap.size + 1 + 1, 0, none⟩ = some (.slice ra nl rc) := block_one (block_kept b2 (unhide KZ))
    clear oR b2
    go_simp
    refine unhide HK _ _ cZ2 ?_
    clear HK K cZ cZ2
    try simp only [Act.put, List.setIfInBounds_toArray, List.set_cons_zero, List.set_cons_succ]
    have b3 := below_alloc (w := w2) (.cells #[.slice pa r.name.length pc, .int .i64 r.type, .int .i64 r.ttl, .int .i64 r.addr, .slice qa r.to.length qc, .slice ya r.text.length yc, .slice za r.nums.length zc] 52)
    have g3 := heap_alloc_new w2 (.cells #[.slice pa r.name.length pc, .int .i64 r.type, .int .i64 r.ttl, .int .i64 r.addr, .slice qa r.to.length qc, .slice ya r.text.length yc, .slice za r.nums.length zc] 52)
    have k3 := block_kept b3 (block_kept (unhide B2) (unhide KZ))
    have row3 := ((unhide ROW).below (unhide B2)).below b3
    have OR3 := hide ((unhide OR).below b3)
    have kt3 := block_kept b3 (block_kept (unhide B2) (unhide KTT))
    have kb3 := block_kept b3 (block_kept (unhide B2) (unhide KBB))
    have bb3 := below_next (below_next (unhide BB) (unhide B2)) b3
    have z3 := b3.size
    have B3 := hide b3
    have G3 := hide g3
    have K3 := hide k3
    have ROW3 := hide row3
    have KT3 := hide kt3
    have KB3 := hide kb3
    have BB3 := hide bb3
    have cZ3 : (w2.alloc (.cells #[.slice pa r.name.length pc, .int .i64 r.type, .int .i64 r.ttl, .int .i64 r.addr, .slice qa r.to.length qc, .slice ya r.text.length yc, .slice za r.nums.length zc] 52)).cell? ⟨w.heap.size + 1 + 1, 0, none⟩ = some (.slice ra nl rc) := block_one k3
    clear b3 g3 k3 row3 kt3 kb3 bb3 ROW KTT KBB KX HR HSS OR
    refine anyT_ready (js := [3]) (by kernel_rfl) (by simp) (AllT.cons (o := ⟨some 26, Op.buildSlice 30 1 #[(0, Operand.tmp 25)], 30, "l05_zone.go:125", #[⟨2, .data⟩], none⟩) rfl (fun K hK => ?_) AllT.nil)
    have HK := hide hK
    clear hK
    go_simp
    refine unhide HK _ _ cZ3 ?_
    clear HK K cZ3
    try simp only [Act.put, List.setIfInBounds_toArray, List.set_cons_zero, List.set_cons_succ]
    generalize w2.alloc (.cells #[.slice pa r.name.length pc, .int .i64 r.type, .int .i64 r.ttl, .int .i64 r.addr, .slice qa r.to.length qc, .slice ya r.text.length yc, .slice za r.nums.length zc] 52) = w3 at *
    refine AnyT.over _ _ _ _ (by kernel_rfl) ?_
    refine wpAny_ready (rs := [4]) (by kernel_rfl) (by simp) (AllReady.cons (o := ⟨some 27, Op.call { callee := Callee.builtin Builtin.append, args := #[Operand.tmp 23, Operand.tmp 26], argTypes := #[30, 30] }, 30, "l05_zone.go:125", #[⟨0, .data⟩, ⟨3, .data⟩, ⟨2, .chain⟩], none⟩) rfl (fun K hK => ?_) AllReady.nil)
    have HK := hide hK
    clear hK
    obtain ⟨xs3, f3, gf3, hx3, hq3, hh3⟩ := unhide ROW3
    rw [unhide HNL] at hx3
    refine step_append_rec rfl (.tmp 23) (.tmp 26) 30 52 rfl Tryz.underlying30 _ info_rrZ rfl (w.heap.size + 3) (.slice ra nl rc) nl (by simp [Act.eval]) w2.heap.size [.slice pa r.name.length pc, .int .i64 r.type, .int .i64 r.ttl, .int .i64 r.addr, .slice qa r.to.length qc, .slice ya r.text.length yc, .slice za r.nums.length zc] (by simp [Act.eval]) ⟨xs3, hx3⟩ (unhide G3) rfl (by simp [Value.oneCell']) (by omega) (by omega) ?_
    intro v4 w4 ho4 g4 hw4
    have row4 := RowO.snoc (unhide ROW3) (C := Wd.heap.size) (D := w2.heap.size) zd z3 (unhide OR3) (by omega) g4 hw4 (by rw [unhide HNL]; exact ho4)
    have u4 : Outside (w.heap.size + 3) w3.heap.size w3 w4 := outside_grown g4 (fun k hk => World.ownsRow.lt hx3 k hk)
    have k4 := block_grown g4 (unhide K3) (row_type hx3 (unhide K3) (by decide))
    have kt4 := block_grown g4 (unhide KT3) (row_type hx3 (unhide KT3) (by decide))
    have kb4 := block_grown g4 (unhide KB3) (row_type hx3 (unhide KB3) (by decide))
    have kf := keepsFrom_of (B := W0.heap.size) (j := 0) (v4 := v4) (unhide BD) (unhide B2) (unhide B3) g4 (fun k o h1 h2 => row_notC hx3 h1 h2) k4
    have u5 := outside_set w4 (w.heap.size + 2) 0 v4
    have z4 := u4.size
    have z5 := u5.size
    have bel : Below w.heap.size W (w4.setCell ⟨w.heap.size + 2, 0, none⟩ v4) := u5.belowAt (u4.belowAt (((unhide BD).mono (by omega)).trans (((unhide B2).mono (by omega)).trans ((unhide B3).mono (by omega)))) (by omega) (by omega)) (by omega) (by omega)
    have bb5 : Below w.heap.size w (w4.setCell ⟨w.heap.size + 2, 0, none⟩ v4) := u5.below (u4.below (unhide BB3) (by omega)) (by omega)
    have FIN : Hid (GotS w w mb w1.heap.size t (pre ++ [⟨((.slice na r.name.length nc, .slice ta r.to.length tc, .slice xa r.text.length xc, .slice ia r.nums.length ic), r), hRR⟩]) (w4.setCell ⟨w.heap.size + 2, 0, none⟩ v4)) := ⟨⟨v4, block_setAt k4 0 v4, by rw [List.map_append, List.filter_append, unhide HSEL, List.map_cons, List.map_nil, List.filter_cons_of_pos (unhide HST), List.filter_nil]; exact (row4.outside u5 (.inr (Nat.le_refl _))).wide (Nat.le_refl _) z5⟩, u5.kept kt4 (by omega), u5.kept kb4 (by omega), bb5⟩
    have KPS : Hid (KpS w.heap.size w1.heap.size W (w4.setCell ⟨w.heap.size + 2, 0, none⟩ v4)) := by
     refine ⟨⟨bel, fun c' t' q => ?_⟩, fun g c' q => ?_⟩
     ·rw [unhide KB0] at q
      cases q
      exact u5.kept kb4 (by omega)
     ·have q3 := block_kept (unhide B3) (block_kept (unhide B2) (block_kept (unhide BD) q))
      have q4 := block_grown g4 q3 (row_type hx3 q3 (by decide))
      refine block_grown (grown_setCell w4 ⟨w.heap.size + 2, 0, none⟩ v4) q4 ?_
      intro e
      simp only [Option.some.injEq] at e
      rw [← e, k4] at q4
      cases q4
    have KF := hide kf
    have c4 : w4.cell? ⟨w.heap.size + 1 + 1, 0, none⟩ = some (.slice ra nl rc) := block_one k4
    have f4 : w4.frozen? ⟨w.heap.size + 1 + 1, 0, none⟩ = false := block_frozen k4 0
    obtain ⟨v4a, v4c, hv4, _⟩ := row4.form
    rw [List.length_append, unhide HNL] at hv4
    replace hv4 : v4 = .slice v4a (nl + 1) v4c := hv4
    subst hv4
    clear row4 u4 k4 kt4 kb4 kf u5 bel bb5 ho4 g4 hw4 hx3 hq3 hh3 ROW3 OR3 KT3 KB3 BB3 G3 K3 B2 B3 BD BB
    refine unhide HK _ _ ?_
    clear HK K
    try simp only [Act.put, List.setIfInBounds_toArray, List.set_cons_zero, List.set_cons_succ]
    refine wpAny_ready (rs := [5]) (by kernel_rfl) (by simp) (AllReady.cons (o := ⟨none, Op.store 30 (.tmp 7) (.tmp 27), 0, "l05_zone.go:125", #[⟨4, .data⟩, ⟨4, .chain⟩, ⟨0, .phase⟩, ⟨1, .phase⟩, ⟨2, .phase⟩, ⟨3, .phase⟩, ⟨4, .phase⟩], none⟩) rfl (fun K hK => ?_) AllReady.nil)
    have HK := hide hK
    clear hK
    go_simp
    refine unhide HK _ _ ?_
    clear HK K
    refine wpAny_done (by kernel_rfl) ?_ _
    exact ⟨unhide KF, unhide KPS, unhide FIN⟩
 case done =>
  rintro D xs W hD hS ⟨⟨vr, kZ, hrow⟩, kT, kB, hB⟩ hK
  rw [hS] at hrow
  obtain ⟨ra, rc, rfl, _⟩ := hrow.form
  have e0 := block_one kZ
  have ROW := hide hrow
  have BB := hide hB
  have HKK := hide hK
  have zD := block_lt hK
  have zZ := block_lt kZ
  clear kZ kT kB hrow hB hK kz kt ko
  gi_wp2
  refine ⟨by simp, .inl ⟨_, _, rfl, run_takeDeferred (unhide HKK), ?_⟩⟩
  have hkk := keptC_of (grownBy_putObj' W D (.deferred none)) (fun r e => by cases e; exact ⟨_, unhide HKK, rfl⟩)
  have zp := (grownBy_putObj' W D (.deferred none)).size
  exact ⟨_, results_tmp rfl _ _ _, _, rfl, ((unhide ROW).keptC hkk).wide (by omega) (by omega), (unhide BB).trans (belowK_b (w := w) (Nat.le_refl _) W D _ _ (by omega) (unhide HKK) rfl rfl)⟩
 case stop =>
  rintro D c pre W _ _ h _
  exact h.elim
end Go.Proofs.YtmlcmkoefelolaaGreat

namespace Go.Proofs.YtmlcmkoefelolaaGreat
open Go.RowKit
set_option linter.unusedVariables false

set_option maxHeartbeats 2000000 in
set_option maxRecDepth 100000 in
theorem implUnder_has {v v' : Value} {n n' : List (List Int)} {w : World} (h : HasL w v n) (h' : HasL w v' n') :
  Calls Tryz.prog 114 #[.agg #[v], .agg #[v']] w fun e w' => e = .returned (.bool (under n n')) ∧ Below w.heap.size w w' := by
 obtain ⟨a, cap, rfl, hcl, hcm⟩ := h.form
 obtain ⟨a', cap', rfl, _⟩ := h'.form
 unfold maxLen at hcm
 have b1 := below_alloc (w := w) (.cells #[.slice a n.length cap] 32)
 have k1 := heap_alloc_new w (.cells #[.slice a n.length cap] 32)
 have e1 : (w.alloc (.cells #[.slice a n.length cap] 32)).heap.size = w.heap.size + 1 := by show (w.heap.push _).size = _; simp
 have b2 := below_alloc (w := w.alloc (.cells #[.slice a n.length cap] 32)) (.cells #[.slice a' n'.length cap'] 32)
 have x2 := heap_alloc_new (w.alloc (.cells #[.slice a n.length cap] 32)) (.cells #[.slice a' n'.length cap'] 32)
 have k2 := block_kept b2 k1
 rw [e1] at x2
 have bb2 := below_next b1 b2
 have h2 := hide (h.below bb2)
 have h2' := hide (h'.below bb2)
 clear h h' b1 b2 k1 e1
 unfold under
 cases hok : nameOk n with
 | false =>
  rw [Bool.false_and]
  have HOK := hide hok
  clear hok
  go_enter Tryz.func114, Tryz.ntmps114
  go_wp2_with fail
  generalize (w.alloc (.cells #[.slice a n.length cap] 32)).alloc (.cells #[.slice a' n'.length cap'] 32) = W at *
  refine (implNameOk_has (unhide h2)).mono ?_
  rw [unhide HOK]
  rintro e w3 ⟨rfl, b3⟩
  go_wp2_with fail
  go_ret
  exact ⟨rfl, below_next bb2 b3⟩
 | true =>
  cases hok' : nameOk n' with
  | false =>
   rw [Bool.true_and, Bool.false_and]
   have HOK := hide hok
   have HOK' := hide hok'
   clear hok hok'
   go_enter Tryz.func114, Tryz.ntmps114
   go_wp2_with fail
   generalize (w.alloc (.cells #[.slice a n.length cap] 32)).alloc (.cells #[.slice a' n'.length cap'] 32) = W at *
   refine (implNameOk_has (unhide h2)).mono ?_
   rw [unhide HOK]
   rintro e w3 ⟨rfl, b3⟩
   have x3 := block_one (block_kept b3 x2)
   go_wp2_with fail
   refine (implNameOk_has ((unhide h2').below b3)).mono ?_
   rw [unhide HOK']
   rintro e w4 ⟨rfl, b4⟩
   go_wp2_with fail
   go_ret
   exact ⟨rfl, below_next bb2 (below_next b3 b4)⟩
  | true =>
   rw [Bool.true_and, Bool.true_and]
   have hs := (nameOk_parts hok).1
   have hs' := (nameOk_parts hok').1
   have hno := hide (fun (hlt : n.length < n'.length) => endsWith_no hlt)
   have hyes := hide (fun (hle : n'.length ≤ n.length) => (show endsWith n n' = (nameCmp (n.drop (n.length - n'.length)) n' == 0) by
    rw [endsWith_yes hle]; unfold nameCmp; rw [if_pos ⟨nameOk_drop hok _, hok'⟩]))
   have HOK := hide hok
   have HOK' := hide hok'
   clear hok hok'
   generalize endsWith n n' = R at *
   have hdrop := hide (fun (W : World) (hW : HasL W (.slice a n.length cap) n) (k : Nat) (hk : k ≤ n.length) => HasL.drop hW rfl hk)
   go_enter Tryz.func114, Tryz.ntmps114
   go_wp2_with fail
   generalize (w.alloc (.cells #[.slice a n.length cap] 32)).alloc (.cells #[.slice a' n'.length cap'] 32) = W0 at *
   refine (implNameOk_has (unhide h2)).mono ?_
   rw [unhide HOK]
   rintro e w3 ⟨rfl, b3⟩
   have x3 := block_one (block_kept b3 x2)
   go_wp2_with fail
   refine (implNameOk_has ((unhide h2').below b3)).mono ?_
   rw [unhide HOK']
   rintro e W ⟨rfl, b4⟩
   have b4 := below_next b3 b4
   have cx := block_one (block_kept b4 x2)
   have ck := block_one (block_kept b4 k2)
   have h4 := hide ((unhide h2).below b4)
   have h4' := hide ((unhide h2').below b4)
   have bb4 := below_next bb2 b4
   clear x3 x2 k2 h2 h2' b3 b4 bb2 HOK HOK'
   by_cases hle : n'.length ≤ n.length
   ·have hr := unhide hyes hle
    have hd := unhide hdrop W (unhide h4) (n.length - n'.length) (by omega)
    clear hyes hno hdrop
    generalize hj : n.length - n'.length = j at *
    have hlen : (n.drop j).length = n.length - j := by simp
    generalize n.drop j = nd at *
    have i0 : ¬ (n.length : Int) < n'.length := by omega
    have s1 : (n.length : Int) - n'.length = j := by omega
    have wj : IntKind.i64.wrap (j : Int) = j := wrap_small j (by omega)
    have jl : j ≤ n.length := by omega
    have jc : j ≤ cap := by omega
    rcases hd with ⟨ha, hm0, hc0⟩ | ⟨g, off, ha, hd⟩
    ·have hz' : n'.length = 0 := by omega
     have hz : j = 0 := by omega
     obtain rfl : nd = [] := List.eq_nil_of_length_eq_zero (by omega)
     obtain rfl : n' = [] := List.eq_nil_of_length_eq_zero hz'
     obtain rfl : n = [] := List.eq_nil_of_length_eq_zero hm0
     subst ha hc0 hz
     clear hj hlen i0 s1 wj jl jc hz' hm0 hle hs hs' hcl
     simp only [List.length_nil] at *
     have HD := hide (show HasL W (.slice none 0 0) [] from .inl ⟨rfl, rfl⟩)
     go_wp2_with fail
     refine (implNameCmp_has (unhide HD) (unhide h4')).mono ?_
     generalize nameCmp [] [] = c at *
     subst hr
     rintro e w5 ⟨rfl, b5⟩
     go_wp2_with fail
     go_ret
     exact ⟨rfl, below_next bb4 b5⟩
    ·subst ha
     by_cases hcj : cap = j
     ·have e2 : j = n.length := by omega
      have e1 : cap = n.length := by omega
      obtain rfl : n' = [] := List.eq_nil_of_length_eq_zero (by omega)
      obtain rfl : nd = [] := List.eq_nil_of_length_eq_zero (by omega)
      rw [if_pos hcj, e1, e2, Nat.sub_self] at hd
      have HD := hide hd
      subst e1 e2
      clear hd hj hlen hcj hle hs' jl jc s1 i0 hcl
      simp only [List.length_nil] at *
      generalize hn : n.length = m at *
      go_wp2_with fail
      refine (implNameCmp_has (unhide HD) (unhide h4')).mono ?_
      generalize nameCmp [] [] = c at *
      subst hr
      rintro e w5 ⟨rfl, b5⟩
      go_wp2_with fail
      go_ret
      exact ⟨rfl, below_next bb4 b5⟩
     ·rw [if_neg hcj] at hd
      have HD := hide hd
      clear hd
      generalize hn : n.length = m at *
      generalize hn' : n'.length = m' at *
      go_wp2_with fail
      refine (implNameCmp_has (unhide HD) (unhide h4')).mono ?_
      generalize nameCmp nd n' = c at *
      subst hr
      rintro e w5 ⟨rfl, b5⟩
      go_wp2_with fail
      go_ret
      exact ⟨rfl, below_next bb4 b5⟩
   ·have hr := unhide hno (by omega)
    subst hr
    have i0 : (n.length : Int) < n'.length := by omega
    go_wp2_with fail
    go_ret
    exact ⟨rfl, bb4⟩
end Go.Proofs.YtmlcmkoefelolaaGreat

namespace Go.Proofs.YtmlcmkoefelolaaGreat
open Go.RowKit
set_option linter.unusedVariables false

set_option maxHeartbeats 1000000 in
set_option maxRecDepth 100000 in
theorem mayBeIn_has {vo vn vt vx vi : Value} {o : List (List Int)} {r : Rec} {w : World} (ho : HasL w vo o) (h : HasR w vn vt vx vi r) :
  Calls Tryz.prog 91 #[.agg #[vo], .agg #[vn, .int .i64 r.type, .int .i64 r.ttl, .int .i64 r.addr, vt, vx, vi]] w fun e w' => e = .returned (.bool (inZone o r)) ∧ Below w.heap.size w w' := by
 obtain ⟨oa, oc, rfl, _⟩ := ho.form
 obtain ⟨na, nc, rfl, _⟩ := h.name.form
 obtain ⟨ta, tc, rfl, _⟩ := h.to.form
 obtain ⟨xa, xc, rfl, _⟩ := h.text.form
 obtain ⟨ia, ic, rfl, _⟩ := h.nums.form
 have b0 := below2 w (.cells #[.slice oa o.length oc] 32) (.cells #[.slice na r.name.length nc, .int .i64 r.type, .int .i64 r.ttl, .int .i64 r.addr, .slice ta r.to.length tc, .slice xa r.text.length xc, .slice ia r.nums.length ic] 52)
 obtain ⟨hsz, k0, x0⟩ := box2 w (.cells #[.slice oa o.length oc] 32) #[.slice na r.name.length nc, .int .i64 r.type, .int .i64 r.ttl, .int .i64 r.addr, .slice ta r.to.length tc, .slice xa r.text.length xc, .slice ia r.nums.length ic] 52
 have H0 := hide (h.below b0)
 have O0 := hide (ho.below b0)
 have K0 := hide k0
 have X0 := hide x0
 have HR := implRrOk_has (h.below b0)
 have UN := fun (w : World) (h1 : HasL w (.slice na r.name.length nc) r.name) (h2 : HasL w (.slice oa o.length oc) o) => implUnder_has h1 h2
 have NC := fun (w : World) (h1 : HasL w (.slice na r.name.length nc) r.name) (h2 : HasL w (.slice oa o.length oc) o) => implNameCmp_has h1 h2
 unfold inZone
 generalize rrOk r = ok at *
 generalize under r.name o = und at *
 generalize nameCmp r.name o = c at *
 replace HR := hide HR
 replace UN := hide UN
 replace NC := hide NC
 clear h ho k0 x0 hsz
 cases ok with
 | false =>
  rw [Bool.false_and]
  go_enter Tryz.func91, Tryz.ntmps91
  go_wp2_with fail
  refine (unhide HR).mono ?_
  rintro e w1 ⟨rfl, b1⟩
  go_wp2_with fail
  go_ret
  exact ⟨rfl, below_next b0 b1⟩
 | true =>
  rw [Bool.true_and]
  generalize hRes : (und && (decide (r.type ≠ 6) || decide (c = 0))) = Res
  have HRES := hide hRes
  clear hRes
  go_enter Tryz.func91, Tryz.ntmps91
  go_wp2_with fail
  generalize (w.alloc (.cells #[.slice oa o.length oc] 32)).alloc (.cells #[.slice na r.name.length nc, .int .i64 r.type, .int .i64 r.ttl, .int .i64 r.addr, .slice ta r.to.length tc, .slice xa r.text.length xc, .slice ia r.nums.length ic] 52) = W at *
  refine (unhide HR).mono ?_
  rintro e w1 ⟨rfl, b1⟩
  have O1 := hide ((unhide O0).below b1)
  have H1 := hide ((unhide H0).below b1)
  have K1 := hide (block_kept b1 (unhide K0))
  have X1 := hide (block_kept b1 (unhide X0))
  have bb1 := below_next b0 b1
  obtain ⟨d0, d1, d2, d3, d4, d5, d6⟩ := cells7 (unhide X1)
  have c0 := block_one (unhide K1)
  clear HR O0 H0 K0 X0 b0 b1
  go_wp2_with fail
  clear d0 d1 d2 d3 d4 d5 d6 c0
  refine (unhide UN _ (unhide H1).name (unhide O1)).mono ?_
  rintro e w2 ⟨rfl, b2⟩
  have bb2 := below_next bb1 b2
  cases und with
  | false =>
   have hRes := unhide HRES
   rw [Bool.false_and] at hRes
   subst hRes
   clear HRES
   go_wp2_with fail
   go_ret
   exact ⟨rfl, bb2⟩
  | true =>
   have hRes := unhide HRES
   rw [Bool.true_and] at hRes
   have K2 := hide (block_kept b2 (unhide K1))
   have X2 := hide (block_kept b2 (unhide X1))
   have O2 := hide ((unhide O1).below b2)
   have H2 := hide ((unhide H1).below b2)
   obtain ⟨d0, d1, d2, d3, d4, d5, d6⟩ := cells7 (unhide X2)
   have c0 := block_one (unhide K2)
   clear HRES O1 H1 K1 X1 bb1 b2
   by_cases h6 : r.type = 6
   ·rw [decide_eq_false (by omega), Bool.false_or] at hRes
    have e6 : (r.type != 6) = false := by rw [h6]; rfl
    have HRES := hide hRes
    clear hRes h6
    go_wp2_with fail
    clear d0 d1 d2 d3 d4 d5 d6 c0
    refine (unhide NC _ (unhide H2).name (unhide O2)).mono ?_
    rintro e w3 ⟨rfl, b3⟩
    have hRes := unhide HRES
    have ec : (c == 0) = Res := by rw [← hRes, Bool.eq_iff_iff, beq_iff_eq, decide_eq_true_iff]
    clear hRes HRES
    go_wp2_with fail
    go_ret
    exact ⟨rfl, below_next bb2 b3⟩
   ·rw [decide_eq_true (show r.type ≠ 6 from h6), Bool.true_or] at hRes
    subst hRes
    have e6 : (r.type != 6) = true := by rw [bne_iff_ne]; exact h6
    clear h6
    go_wp2_with fail
    go_ret
    exact ⟨rfl, bb2⟩

set_option maxHeartbeats 1000000 in
set_option maxRecDepth 100000 in
theorem mayFollow_has {vn vt vx vi un ut ux ui : Value} {a b : Rec} {w : World} (h : HasR w vn vt vx vi a) (h' : HasR w un ut ux ui b) :
  Calls Tryz.prog 92 #[.agg #[vn, .int .i64 a.type, .int .i64 a.ttl, .int .i64 a.addr, vt, vx, vi], .agg #[un, .int .i64 b.type, .int .i64 b.ttl, .int .i64 b.addr, ut, ux, ui]] w fun e w' => e = .returned (.bool (follows a b)) ∧ Below w.heap.size w w' := by
 obtain ⟨na, nc, rfl, _⟩ := h.name.form
 obtain ⟨ta, tc, rfl, _⟩ := h.to.form
 obtain ⟨xa, xc, rfl, _⟩ := h.text.form
 obtain ⟨ia, ic, rfl, _⟩ := h.nums.form
 obtain ⟨na', nc', rfl, _⟩ := h'.name.form
 obtain ⟨ta', tc', rfl, _⟩ := h'.to.form
 obtain ⟨xa', xc', rfl, _⟩ := h'.text.form
 obtain ⟨ia', ic', rfl, _⟩ := h'.nums.form
 have b0 := below2 w (.cells #[.slice na a.name.length nc, .int .i64 a.type, .int .i64 a.ttl, .int .i64 a.addr, .slice ta a.to.length tc, .slice xa a.text.length xc, .slice ia a.nums.length ic] 52) (.cells #[.slice na' b.name.length nc', .int .i64 b.type, .int .i64 b.ttl, .int .i64 b.addr, .slice ta' b.to.length tc', .slice xa' b.text.length xc', .slice ia' b.nums.length ic'] 52)
 obtain ⟨hsz, k0, x0⟩ := box2 w (.cells #[.slice na a.name.length nc, .int .i64 a.type, .int .i64 a.ttl, .int .i64 a.addr, .slice ta a.to.length tc, .slice xa a.text.length xc, .slice ia a.nums.length ic] 52) #[.slice na' b.name.length nc', .int .i64 b.type, .int .i64 b.ttl, .int .i64 b.addr, .slice ta' b.to.length tc', .slice xa' b.text.length xc', .slice ia' b.nums.length ic'] 52
 have H0 := hide (h.below b0)
 have J0 := hide (h'.below b0)
 have K0 := hide k0
 have X0 := hide x0
 have CM := implRrCmp_has (h.below b0) (h'.below b0)
 have NC := fun (w : World) (h1 : HasL w (.slice na a.name.length nc) a.name) (h2 : HasL w (.slice na' b.name.length nc') b.name) => implNameCmp_has h1 h2
 unfold follows
 generalize rrCmp a b = c at *
 generalize nameCmp a.name b.name = d at *
 replace CM := hide CM
 replace NC := hide NC
 clear h h' k0 x0 hsz
 generalize hRes : (decide (c < 0) && ((decide (a.type ≠ 5) && decide (b.type ≠ 5)) || decide (d ≠ 0))) = Res
 have HRES := hide hRes
 clear hRes
 go_enter Tryz.func92, Tryz.ntmps92
 go_wp2_with fail
 generalize (w.alloc (.cells #[.slice na a.name.length nc, .int .i64 a.type, .int .i64 a.ttl, .int .i64 a.addr, .slice ta a.to.length tc, .slice xa a.text.length xc, .slice ia a.nums.length ic] 52)).alloc (.cells #[.slice na' b.name.length nc', .int .i64 b.type, .int .i64 b.ttl, .int .i64 b.addr, .slice ta' b.to.length tc', .slice xa' b.text.length xc', .slice ia' b.nums.length ic'] 52) = W at *
 refine (unhide CM).mono ?_
 rintro e w1 ⟨rfl, b1⟩
 have H1 := hide ((unhide H0).below b1)
 have J1 := hide ((unhide J0).below b1)
 have K1 := hide (block_kept b1 (unhide K0))
 have X1 := hide (block_kept b1 (unhide X0))
 have bb1 := below_next b0 b1
 clear CM H0 J0 K0 X0 b0 b1
 by_cases hc : c < 0
 ·have hRes := unhide HRES
  rw [decide_eq_true hc, Bool.true_and] at hRes
  have hc' : ¬ (0 ≤ c) := by omega
  obtain ⟨d0, d1, d2, d3, d4, d5, d6⟩ := cells7 (unhide K1)
  obtain ⟨f0, f1, f2, f3, f4, f5, f6⟩ := cells7 (unhide X1)
  clear HRES hc
  by_cases h5 : a.type ≠ 5 ∧ b.type ≠ 5
  ·rw [decide_eq_true h5.1, decide_eq_true h5.2, Bool.true_and, Bool.true_or] at hRes
   subst hRes
   have e5 : (a.type != 5) = true := by rw [bne_iff_ne]; exact h5.1
   have e5' : (b.type != 5) = true := by rw [bne_iff_ne]; exact h5.2
   clear h5
   go_wp2_with fail
   go_ret
   exact ⟨rfl, bb1⟩
  ·have hf : (decide (a.type ≠ 5) && decide (b.type ≠ 5)) = false := by
    rw [Bool.and_eq_false_iff, decide_eq_false_iff_not, decide_eq_false_iff_not]
    omega
   rw [hf, Bool.false_or] at hRes
   have ed : (d != 0) = Res := by rw [← hRes, Bool.eq_iff_iff, bne_iff_ne, decide_eq_true_iff]
   have HED := hide ed
   clear hRes hf ed
   by_cases h6 : a.type = 5
   ·have e5 : (a.type != 5) = false := by rw [h6]; rfl
    clear h5 h6
    go_wp2_with fail
    clear d0 d1 d2 d3 d4 d5 d6 f0 f1 f2 f3 f4 f5 f6
    refine (unhide NC _ (unhide H1).name (unhide J1).name).mono ?_
    rintro e w2 ⟨rfl, b2⟩
    have ed := unhide HED
    clear HED
    go_wp2_with fail
    go_ret
    exact ⟨rfl, below_next bb1 b2⟩
   ·have e5 : (a.type != 5) = true := by rw [bne_iff_ne]; exact h6
    have h7 : b.type = 5 := by omega
    have e5' : (b.type != 5) = false := by rw [h7]; rfl
    clear h5 h6 h7
    go_wp2_with fail
    clear d0 d1 d2 d3 d4 d5 d6 f0 f1 f2 f3 f4 f5 f6
    refine (unhide NC _ (unhide H1).name (unhide J1).name).mono ?_
    rintro e w2 ⟨rfl, b2⟩
    have ed := unhide HED
    clear HED
    go_wp2_with fail
    go_ret
    exact ⟨rfl, below_next bb1 b2⟩
 ·have hRes := unhide HRES
  rw [decide_eq_false hc, Bool.false_and] at hRes
  subst hRes
  have hc' : 0 ≤ c := by omega
  clear HRES hc
  go_wp2_with fail
  go_ret
  exact ⟨rfl, bb1⟩
end Go.Proofs.YtmlcmkoefelolaaGreat
