/-
  Contract of the program's set: what a book says of a name and a type, in order, as a row of its own. Plain facts: what Owner answers. No program is named here. The library functions that this program calls, by the contracts that lie compiled in the library, laid at this program by the shelf's own command in plain words.
-/
import Derived.Test.YtfneahdnpmamkaaGreatFnOwnersG45
import Derived.Shelf.Small.Bits
import Derived.Shelf.Small.Wraps
import Derived.Shelf.Strconv.Itoa0
import Derived.Shelf.Sort.Plain
import Derived.Ground.Names2Prog
import Derived.Shelf.Slices.SearchI
import Derived.Shelf.Slices.In.SortNone
import Derived.Shelf.Bytes.SlSearch0
import Derived.Shelf.Bytes.SlEqualAll
import Derived.Shelf.Bytes.Small
import Derived.Test.YtfneahdnpmamkaaGreatProg
namespace Go.Proofs.YtfneahdnpmamkaaGreat
open Go.RowKit Go.Shelf
set_option linter.unusedVariables false

def GotS (w w0 : World) (mb : Option Nat) (Bt : Nat) (t : Int) (pre : List (RecV w0)) (W : World) : Prop :=
 (∃ vr, W.heap[w.heap.size + 2]? = some (.cells #[vr] 26) ∧ RowO (w.heap.size + 3) W.heap.size 39 22 5 3 W vr ((pre.map (·.1.2)).filter (selT t))) ∧ W.heap[w.heap.size + 1]? = some (.cells #[.int .i64 t] 3) ∧ W.heap[Bt]? = some (.cells #[.map mb] 78) ∧ Below w.heap.size w W
theorem Sp (w w0 : World) (mb : Option Nat) (Bt : Nat) (t : Int) (B : Nat) (hB : w.heap.size ≤ B) : OwnFrom B (GotS w w0 mb Bt t) := by
 intro s W W' row ⟨⟨vr, h1, h2⟩, h3, h4, hb⟩ hg hr
 have hk := D7 hg (fun r e => (hr r e).2)
 exact ⟨⟨vr, hk _ _ _ h1, (h2.keptC hk).wide (Nat.le_refl _) hg.size⟩, hk _ _ _ h3, hk _ _ _ h4, hb.grown hg hb.size (fun k e => by have := (hr k e).1; omega)⟩
theorem Yr {n0 : Nat} {w w' : World} {b : Nat} {B : Bk} (hB : Gd n0 w b B) (hb : Below w.heap.size w w') {kn : ByteArray} (hk : kn.size ≤ maxLen) : ∃ mb, (Instr.lookup 52 (.map (some b)) (.string kn) false).run Tryz.prog w' = .ok (.map mb) w' ∧ Hf w mb ((Aw kn B).getD []) := by
 obtain ⟨_, ps, hM, hT, _⟩ := hB
 rcases Oi (k := kn) hT with ⟨l1, l2⟩ | ⟨v, P, l1, l2, ⟨p, rfl, _, _, q3⟩, _⟩
 ·exact ⟨none, Pf (hM.below hb) hk l1, .inl ⟨rfl, by rw [l2]; rfl⟩⟩
 ·exact ⟨some p, Du (hM.below hb) hk l1, .inr ⟨p, rfl, by rw [l2]; exact q3⟩⟩

set_option maxHeartbeats 2000000 in
set_option maxRecDepth 100000 in
theorem Ue {n0 b : Nat} {B : Bk} {v : Value} {n : List (List Int)} (t : Int) {w : World} (hB : Gd n0 w b B) (hn : HasL w v n) (hs : Kz n) (hl : ((Aw (strOfNums (keyN n)) B).getD []).length ≤ 1000) (hsh : ∀ x ∈ (Aw (strOfNums (keyN n)) B).getD [], Em x.2) :
  CallsIn Fence.wide 7 Tryz.prog 20 #[.map (some b), .agg #[v], .int .i64 t] w fun e w' => ∃ ur, e = .returned ur ∧ RowO w.heap.size w'.heap.size 39 22 5 3 w' ur ((Nw ((Aw (strOfNums (keyN n)) B).getD [])).filter (selT t)) ∧ Below w.heap.size w w' := by
 obtain ⟨a, cap, rfl, _⟩ := hn.form
 have hkn := Kr hs
 have hsz1 : (w.alloc (.cells #[.slice a n.length cap] 25)).heap.size = w.heap.size + 1 := World.size_alloc w _
 obtain ⟨hsz, k0, r0⟩ := box2 w (.cells #[.slice a n.length cap] 25) #[.int .i64 t] 3
 have b0 := Bl w (.cells #[.slice a n.length cap] 25) (.cells #[.int .i64 t] 3)
 have b1 := UI (w := (w.alloc (.cells #[.slice a n.length cap] 25)).alloc (.cells #[.int .i64 t] 3)) (.cells #[.slice none 0 0] 26)
 have o0 := heap_alloc_new ((w.alloc (.cells #[.slice a n.length cap] 25)).alloc (.cells #[.int .i64 t] 3)) (.cells #[.slice none 0 0] 26)
 rw [hsz] at o0
 have bb := UG b0 b1
 have KT := UC (UE b1 r0)
 have KO := UC o0
 have c0 := US (UE b1 k0)
 have HN := UC (Nh (hn.below bb) hs.1 hs.2)
 have HB := UC hB
 have zo := VC o0
 clear hsz hsz1 k0 r0 o0 b0 b1 hB hn
 generalize hKN : strOfNums (keyN n) = kn at *
 generalize hPP : (Aw kn B).getD [] = P at *
 have HPP := UC hPP
 clear hKN hPP
 refine callsIn_of_wp_marks Tryz.func20 rfl trivial ?_ rfl
 simp only [Tryz.ntmps20, List.size_toArray, List.length_cons, List.length_nil, Nat.reduceAdd, Nat.reduceSub, Array.replicate_succ, Array.replicate_zero, List.push_toArray, List.append_toArray, List.nil_append, List.cons_append]
 gi_wp2_with (first
  | (refine ⟨trivial, ?_⟩; gi_at_call 45; refine (callsIn_wide.2 (callsIn_wide.1 (UB HN))).mono ?_; rintro e w1 ⟨rfl, b1⟩; obtain ⟨mb, hlook, hOP⟩ := Yr (UB HB) (UG bb b1) hkn)
  | (refine ⟨trivial, ?_⟩; gi_at_call 44; refine (callsIn_wide.2 (Z3 _ _)).mono ?_; rintro e w2 ⟨rfl, hw2⟩))
 have bz := UI (w := w1) (.cells #[.map mb] 78)
 have kz := heap_alloc_new w1 (.cells #[.map mb] 78)
 have bb1 := UG bb b1
 have hB0 := UG bb1 bz
 have kt := UE bz (UE b1 (UB KT))
 have ko := UE bz (UE b1 (UB KO))
 have zB := VC kz
 have z1 := b1.size
 clear hw2 hlook c0 b1 bz bb HN KT KO HB
 generalize hW0 : w1.alloc (.cells #[.map mb] 78) = W0 at *
 clear hW0
 have hOP' : Hf w mb P := by rw [← UB HPP]; exact hOP
 have zw3 : w.heap.size + 3 ≤ w1.heap.size := by omega
 refine wpIn_rangeFunc_ownH rfl (by omega) (gf := 73) (lb := #[.pointer (some ⟨w1.heap.size, 0, none⟩)]) rfl trivial (enters_of Tryz.func73 (by kernel_rfl) rfl) (Xb w1.heap.size w W0 mb P hOP' hl hsh hB0 kz) (fun h k => kpS_t h k) (kpS_b (w := W0) hB0.size) (Below.refl _ _) (fun _ => rfl)
  (GotS w w mb w1.heap.size t) (fun _ _ _ => False) (Sp w w mb _ t _ hB0.size) (fun _ _ _ _ _ h _ _ => h)
  ⟨⟨.slice none 0 0, ko, RowO.nil _ _ _ _ _ _ _⟩, kt, kz, hB0⟩
  (fun x a' W => ∃ Bx, w1.heap.size < Bx ∧ W.heap[Bx]? = some (.cells (Ks x) 39) ∧ a' = { tmps := #[.map (some b), .agg #[.slice a n.length cap], .int .i64 t, undef, .pointer (some ⟨w.heap.size, 0, none⟩), .pointer (some ⟨w.heap.size + 1, 0, none⟩), .slice none 0 0, .pointer (some ⟨w.heap.size + 1 + 1, 0, none⟩), .pointer (some ⟨Bx, 0, none⟩), .map (some b), .agg #[.slice a n.length cap], .string kn, .map mb, .func (.func 73) #[] #[.pointer (some ⟨w1.heap.size, 0, none⟩)], .agg (Ks x), undef, undef, undef, undef, undef, undef, undef, undef, undef, undef, undef, undef, undef, undef], defers := [] })
  (fun x a' _ W W' row ⟨Bx, q1, q2, q3⟩ hg hr => ⟨Bx, q1, D7 hg (fun r e => (hr r e).2) _ _ _ q2, q3⟩) ?assign ?body ?done ?stop
 case assign =>
  rintro lr pre x W K hi hK
  have hsem := Oper.semAt_some lr
  obtain ⟨⟨⟨vn, vt, vx, vi⟩, r⟩, hRR⟩ := x
  have hR := hRR.1
  have hS := hRR.2
  dsimp only at hR hS hRR
  obtain ⟨na, nc, rfl, _⟩ := hR.name.form
  obtain ⟨ta, tc, rfl, _⟩ := hR.to.form
  obtain ⟨xa, xc, rfl, _⟩ := hR.text.form
  obtain ⟨ia, ic, rfl, _⟩ := hR.nums.form
  have zW := VC hi.2.2.1
  have ba := UI (w := W) (.cells #[.slice na r.name.length nc, .int .i64 r.type, .int .i64 r.ttl, .int .i64 r.addr, .slice ta r.to.length tc, .slice xa r.text.length xc, .slice ia r.nums.length ic] 39)
  have hi2 := Sp w w mb w1.heap.size t w.heap.size (Nat.le_refl _) pre W _ none hi (World.grownBy_alloc W (.cells #[.slice na r.name.length nc, .int .i64 r.type, .int .i64 r.ttl, .int .i64 r.addr, .slice ta r.to.length tc, .slice xa r.text.length xc, .slice ia r.nums.length ic] 39) none) (fun r e => by cases e)
  have kx := heap_alloc_new W (.cells #[.slice na r.name.length nc, .int .i64 r.type, .int .i64 r.ttl, .int .i64 r.addr, .slice ta r.to.length tc, .slice xa r.text.length xc, .slice ia r.nums.length ic] 39)
  have HK := UC hK
  have H2 := UC hi2
  have KX := UC kx
  have BA := UC ba
  clear hK hi2 kx ba hi
  unfold encV
  gi_wp2
  exact UB HK _ _ ((KeepsOthers.alloc _ _).from _) ⟨⟨(UB BA).mono (by omega), fun c t q => UE (UB BA) q⟩, fun g c q => UE (UB BA) q⟩ (UB H2) ⟨W.heap.size, zW, UB KX, rfl⟩
 case body =>
  rintro lr pre x a' W hl' ⟨rr, hrr⟩ ⟨⟨vr, kZ, hrow⟩, kT, kB, hB⟩ ⟨Bx, hBx, kX, rfl⟩ hlt
  have hsem := Oper.semAt_some lr
  obtain ⟨⟨⟨vn, vt, vx, vi⟩, r⟩, hRR⟩ := x
  have hR := hRR.1
  have hS := hRR.2
  dsimp only at hR hS hRR
  obtain ⟨na, nc, rfl, _⟩ := hR.name.form
  obtain ⟨ta, tc, rfl, _⟩ := hR.to.form
  obtain ⟨xa, xc, rfl, _⟩ := hR.text.form
  obtain ⟨ia, ic, rfl, _⟩ := hR.nums.form
  obtain ⟨ra, rc, rfl, _⟩ := hrow.form
  replace kX : W.heap[Bx]? = some (.cells #[.slice na r.name.length nc, .int .i64 r.type, .int .i64 r.ttl, .int .i64 r.addr, .slice ta r.to.length tc, .slice xa r.text.length xc, .slice ia r.nums.length ic] 39) := kX
  have hlp : ((pre.map (·.1.2)).filter (selT t)).length ≤ 1000 := by
   refine Nat.le_trans (List.length_filter_le _ _) ?_
   rw [List.length_map]
   rw [Ea] at hlt
   omega
  generalize hsel : ((pre.map (·.1.2)).filter (selT t)) = sel at *
  have HSEL := UC hsel
  clear hsel
  generalize hnl : sel.length = nl at *
  have HNL := UC hnl
  clear hnl
  have zT := VC kT
  have zX := VC kX
  have zB2 := VC kB
  unfold Ks
  dsimp only
  cases hst : selT t r with
  | false =>
   have e255 : (t == 255) = false := by
    unfold selT at hst
    rw [Bool.or_eq_false_iff] at hst
    exact hst.1
   have ett : (r.type == t) = false := by
    unfold selT at hst
    rw [Bool.or_eq_false_iff] at hst
    exact hst.2
   have ct := US kT
   obtain ⟨d0, d1, d2, d3, d4, d5, d6⟩ := UJ kX
   have FIN : Hid (GotS w w mb w1.heap.size t (pre ++ [⟨((.slice na r.name.length nc, .slice ta r.to.length tc, .slice xa r.text.length xc, .slice ia r.nums.length ic), r), hRR⟩]) W) := ⟨⟨_, kZ, by rw [List.map_append, List.filter_append, UB HSEL]; simp [hst]; rw [UB HNL] at *; exact hrow⟩, kT, kB, hB⟩
   clear hst kZ kT kB hB hrow kX hR hS HNL HSEL hrr kz kt ko hB0
   gi_wp2
   exact ⟨KeepsFrom.refl _ _, ⟨⟨Below.refl _ _, fun _ _ q => q⟩, fun _ _ q => q⟩, UB FIN⟩
  | true =>
   have HST := UC hst
   have ct := US kT
   obtain ⟨d0, d1, d2, d3, d4, d5, d6⟩ := UJ kX
   have bd := UX (w := W)
   have KZ := UC (UE bd kZ)
   have KX := UC (UE bd kX)
   have KTT := UC (UE bd kT)
   have KBB := UC (UE bd kB)
   have KB0 := UC kB
   have ROW := UC (hrow.below bd)
   have BB := UC (UG hB bd)
   have HR := UC (hR.below (UG hB bd))
   have HSS := UC hS
   have zd := bd.size
   have zw := hB.size
   have BD := UC bd
   have hor : (t == 255) = true ∨ ((t == 255) = false ∧ (r.type == t) = true) := by
    unfold selT at hst
    cases h255 : (t == 255) with
    | true => exact .inl rfl
    | false =>
     rw [h255, Bool.false_or] at hst
     exact .inr ⟨rfl, hst⟩
   clear hst kZ kX kT kB hrow hB hR hS bd hrr kz kt ko hB0
   rcases hor with e255 | ⟨e255, ett⟩
   ·gi_wp2
    clear d0 d1 d2 d3 d4 d5 d6 ct
    refine Hg (by rintro ⟨a', w', hq⟩; exact hq) (by kernel_rfl) (by kernel_rfl) ?_
    show wpAny _ _ _ _ _ _ _ W.drew
    generalize W.drew = Wd at *
    have cZ : Wd.cell? ⟨w.heap.size + 1 + 1, 0, none⟩ = some (.slice ra nl rc) := US (UB KZ)
    obtain ⟨d0, d1, d2, d3, d4, d5, d6⟩ := UJ (UB KX)
    refine Gg (i := 0) (oi := ⟨some 23, Op.load 26 (.tmp 7), 26, "l05_zone.go:125", #[], none⟩) (v := .slice ra nl rc) (fun w' => w'.cell? ⟨w.heap.size + 1 + 1, 0, none⟩ = some (.slice ra nl rc)) rfl (by kernel_rfl) (by kernel_rfl) (by kernel_rfl) (fun _ _ _ h => h) (Or.inl ⟨by rfl, fun w' hw' => by go_simp⟩) cZ ?_
    try simp only [Act.put, List.setIfInBounds_toArray, List.set_cons_zero, List.set_cons_succ]
    refine Al (js := [1]) (by kernel_rfl) (by simp) (AllT.cons (o := ⟨some 24, Op.load 39 (.tmp 8), 39, "l05_zone.go:125", #[], none⟩) rfl (fun K hK => ?_) AllT.nil)
    have HK := UC hK
    clear hK
    go_simp
    refine UB HK _ _ cZ ?_
    clear HK K d0 d1 d2 d3 d4 d5 d6
    try simp only [Act.put, List.setIfInBounds_toArray, List.set_cons_zero, List.set_cons_succ]
    refine Al (js := [2]) (by kernel_rfl) (by simp) (AllT.cons (o := ⟨some 25, Op.call { callee := Callee.value (Operand.func 46), args := #[Operand.tmp 24], argTypes := #[39] }, 39, "l05_zone.go:125", #[⟨1, .data⟩], none⟩) rfl (fun K hK => ?_) AllT.nil)
    have HK := UC hK
    clear hK
    go_simp
    refine (I7 (UB HR) (UB HSS)).mono ?_
    rintro e w2 ⟨un, ut, ux, ui, rfl, oR, b2⟩
    obtain ⟨pa, pc, rfl, _⟩ := oR.hasR.name.form
    obtain ⟨qa, qc, rfl, _⟩ := oR.hasR.to.form
    obtain ⟨ya, yc, rfl, _⟩ := oR.hasR.text.form
    obtain ⟨za, zc, rfl, _⟩ := oR.hasR.nums.form
    have OR := UC oR
    have B2 := UC b2
    have z2 := b2.size
    have cZ2 : w2.cell? ⟨w.heap.size + 1 + 1, 0, none⟩ = some (.slice ra nl rc) := US (UE b2 (UB KZ))
    clear oR b2
    go_simp
    refine UB HK _ _ cZ2 ?_
    clear HK K cZ cZ2
    try simp only [Act.put, List.setIfInBounds_toArray, List.set_cons_zero, List.set_cons_succ]
    have b3 := UI (w := w2) (.cells #[.slice pa r.name.length pc, .int .i64 r.type, .int .i64 r.ttl, .int .i64 r.addr, .slice qa r.to.length qc, .slice ya r.text.length yc, .slice za r.nums.length zc] 39)
    have g3 := heap_alloc_new w2 (.cells #[.slice pa r.name.length pc, .int .i64 r.type, .int .i64 r.ttl, .int .i64 r.addr, .slice qa r.to.length qc, .slice ya r.text.length yc, .slice za r.nums.length zc] 39)
    have k3 := UE b3 (UE (UB B2) (UB KZ))
    have row3 := ((UB ROW).below (UB B2)).below b3
    have OR3 := UC ((UB OR).below b3)
    have kt3 := UE b3 (UE (UB B2) (UB KTT))
    have kb3 := UE b3 (UE (UB B2) (UB KBB))
    have bb3 := UG (UG (UB BB) (UB B2)) b3
    have z3 := b3.size
    have B3 := UC b3
    have G3 := UC g3
    have K3 := UC k3
    have ROW3 := UC row3
    have KT3 := UC kt3
    have KB3 := UC kb3
    have BB3 := UC bb3
    have cZ3 : (w2.alloc (.cells #[.slice pa r.name.length pc, .int .i64 r.type, .int .i64 r.ttl, .int .i64 r.addr, .slice qa r.to.length qc, .slice ya r.text.length yc, .slice za r.nums.length zc] 39)).cell? ⟨w.heap.size + 1 + 1, 0, none⟩ = some (.slice ra nl rc) := US k3
    clear b3 g3 k3 row3 kt3 kb3 bb3 ROW KTT KBB KX HR HSS OR
    refine Al (js := [3]) (by kernel_rfl) (by simp) (AllT.cons (o := ⟨some 26, Op.buildSlice 26 1 #[(0, Operand.tmp 25)], 26, "l05_zone.go:125", #[⟨2, .data⟩], none⟩) rfl (fun K hK => ?_) AllT.nil)
    have HK := UC hK
    clear hK
    go_simp
    refine UB HK _ _ cZ3 ?_
    clear HK K cZ3
    try simp only [Act.put, List.setIfInBounds_toArray, List.set_cons_zero, List.set_cons_succ]
    generalize w2.alloc (.cells #[.slice pa r.name.length pc, .int .i64 r.type, .int .i64 r.ttl, .int .i64 r.addr, .slice qa r.to.length qc, .slice ya r.text.length yc, .slice za r.nums.length zc] 39) = w3 at *
    refine AnyT.over _ _ _ _ (by kernel_rfl) ?_
    refine wpAny_ready (rs := [4]) (by kernel_rfl) (by simp) (AllReady.cons (o := ⟨some 27, Op.call { callee := Callee.builtin Builtin.append, args := #[Operand.tmp 23, Operand.tmp 26], argTypes := #[26, 26] }, 26, "l05_zone.go:125", #[⟨0, .data⟩, ⟨3, .data⟩, ⟨2, .chain⟩], none⟩) rfl (fun K hK => ?_) AllReady.nil)
    have HK := UC hK
    clear hK
    obtain ⟨xs3, f3, gf3, hx3, hq3, hh3⟩ := UB ROW3
    rw [UB HNL] at hx3
    refine E0 rfl (.tmp 23) (.tmp 26) 26 39 rfl Tryz.underlying26 _ Nf rfl (w.heap.size + 3) (.slice ra nl rc) nl (by simp [Act.eval]) w2.heap.size [.slice pa r.name.length pc, .int .i64 r.type, .int .i64 r.ttl, .int .i64 r.addr, .slice qa r.to.length qc, .slice ya r.text.length yc, .slice za r.nums.length zc] (by simp [Act.eval]) ⟨xs3, hx3⟩ (UB G3) rfl (by simp [Value.oneCell']) (by omega) (by omega) ?_
    intro v4 w4 ho4 g4 hw4
    have row4 := RowO.snoc (UB ROW3) (C := Wd.heap.size) (D := w2.heap.size) zd z3 (UB OR3) (by omega) g4 hw4 (by rw [UB HNL]; exact ho4)
    have u4 : Ap (w.heap.size + 3) w3.heap.size w3 w4 := Cx g4 (fun k hk => World.ownsRow.lt hx3 k hk)
    have k4 := Aa g4 (UB K3) (Dh hx3 (UB K3) (by decide))
    have kt4 := Aa g4 (UB KT3) (Dh hx3 (UB KT3) (by decide))
    have kb4 := Aa g4 (UB KB3) (Dh hx3 (UB KB3) (by decide))
    have kf := Gw (B := W0.heap.size) (j := 0) (v4 := v4) (UB BD) (UB B2) (UB B3) g4 (fun k o h1 h2 => Ia hx3 h1 h2) k4
    have u5 := UT w4 (w.heap.size + 2) 0 v4
    have z4 := u4.size
    have z5 := u5.size
    have bel : Below w.heap.size W (w4.setCell ⟨w.heap.size + 2, 0, none⟩ v4) := u5.belowAt (u4.belowAt (((UB BD).mono (by omega)).trans (((UB B2).mono (by omega)).trans ((UB B3).mono (by omega)))) (by omega) (by omega)) (by omega) (by omega)
    have bb5 : Below w.heap.size w (w4.setCell ⟨w.heap.size + 2, 0, none⟩ v4) := u5.below (u4.below (UB BB3) (by omega)) (by omega)
    have FIN : Hid (GotS w w mb w1.heap.size t (pre ++ [⟨((.slice na r.name.length nc, .slice ta r.to.length tc, .slice xa r.text.length xc, .slice ia r.nums.length ic), r), hRR⟩]) (w4.setCell ⟨w.heap.size + 2, 0, none⟩ v4)) := ⟨⟨v4, UV k4 0 v4, by rw [List.map_append, List.filter_append, UB HSEL, List.map_cons, List.map_nil, List.filter_cons_of_pos (UB HST), List.filter_nil]; exact (row4.outside u5 (.inr (Nat.le_refl _))).wide (Nat.le_refl _) z5⟩, u5.kept kt4 (by omega), u5.kept kb4 (by omega), bb5⟩
    have KPS : Hid (KpS w.heap.size w1.heap.size W (w4.setCell ⟨w.heap.size + 2, 0, none⟩ v4)) := by
     refine ⟨⟨bel, fun c' t' q => ?_⟩, fun g c' q => ?_⟩
     ·rw [UB KB0] at q
      cases q
      exact u5.kept kb4 (by omega)
     ·have q3 := UE (UB B3) (UE (UB B2) (UE (UB BD) q))
      have q4 := Aa g4 q3 (Dh hx3 q3 (by decide))
      refine Aa (Ab w4 ⟨w.heap.size + 2, 0, none⟩ v4) q4 ?_
      intro e
      simp only [Option.some.injEq] at e
      rw [← e, k4] at q4
      cases q4
    have KF := UC kf
    have c4 : w4.cell? ⟨w.heap.size + 1 + 1, 0, none⟩ = some (.slice ra nl rc) := US k4
    have f4 : w4.frozen? ⟨w.heap.size + 1 + 1, 0, none⟩ = false := VG k4 0
    obtain ⟨v4a, v4c, hv4, _⟩ := row4.form
    rw [List.length_append, UB HNL] at hv4
    replace hv4 : v4 = .slice v4a (nl + 1) v4c := hv4
    subst hv4
    clear row4 u4 k4 kt4 kb4 kf u5 bel bb5 ho4 g4 hw4 hx3 hq3 hh3 ROW3 OR3 KT3 KB3 BB3 G3 K3 B2 B3 BD BB
    refine UB HK _ _ ?_
    clear HK K
    try simp only [Act.put, List.setIfInBounds_toArray, List.set_cons_zero, List.set_cons_succ]
    refine wpAny_ready (rs := [5]) (by kernel_rfl) (by simp) (AllReady.cons (o := ⟨none, Op.store 26 (.tmp 7) (.tmp 27), 0, "l05_zone.go:125", #[⟨4, .data⟩, ⟨4, .chain⟩, ⟨0, .phase⟩, ⟨1, .phase⟩, ⟨2, .phase⟩, ⟨3, .phase⟩, ⟨4, .phase⟩], none⟩) rfl (fun K hK => ?_) AllReady.nil)
    have HK := UC hK
    clear hK
    go_simp
    refine UB HK _ _ ?_
    clear HK K
    refine wpAny_done (by kernel_rfl) ?_ _
    exact ⟨UB KF, UB KPS, UB FIN⟩
   ·gi_wp2
    clear d0 d1 d2 d3 d4 d5 d6 ct
    refine Hg (by rintro ⟨a', w', hq⟩; exact hq) (by kernel_rfl) (by kernel_rfl) ?_
    show wpAny _ _ _ _ _ _ _ W.drew
    generalize W.drew = Wd at *
    have cZ : Wd.cell? ⟨w.heap.size + 1 + 1, 0, none⟩ = some (.slice ra nl rc) := US (UB KZ)
    obtain ⟨d0, d1, d2, d3, d4, d5, d6⟩ := UJ (UB KX)
    refine Gg (i := 0) (oi := ⟨some 23, Op.load 26 (.tmp 7), 26, "l05_zone.go:125", #[], none⟩) (v := .slice ra nl rc) (fun w' => w'.cell? ⟨w.heap.size + 1 + 1, 0, none⟩ = some (.slice ra nl rc)) rfl (by kernel_rfl) (by kernel_rfl) (by kernel_rfl) (fun _ _ _ h => h) (Or.inl ⟨by rfl, fun w' hw' => by go_simp⟩) cZ ?_
    try simp only [Act.put, List.setIfInBounds_toArray, List.set_cons_zero, List.set_cons_succ]
    refine Al (js := [1]) (by kernel_rfl) (by simp) (AllT.cons (o := ⟨some 24, Op.load 39 (.tmp 8), 39, "l05_zone.go:125", #[], none⟩) rfl (fun K hK => ?_) AllT.nil)
    have HK := UC hK
    clear hK
    go_simp
    refine UB HK _ _ cZ ?_
    clear HK K d0 d1 d2 d3 d4 d5 d6
    try simp only [Act.put, List.setIfInBounds_toArray, List.set_cons_zero, List.set_cons_succ]
    refine Al (js := [2]) (by kernel_rfl) (by simp) (AllT.cons (o := ⟨some 25, Op.call { callee := Callee.value (Operand.func 46), args := #[Operand.tmp 24], argTypes := #[39] }, 39, "l05_zone.go:125", #[⟨1, .data⟩], none⟩) rfl (fun K hK => ?_) AllT.nil)
    have HK := UC hK
    clear hK
    go_simp
    refine (I7 (UB HR) (UB HSS)).mono ?_
    rintro e w2 ⟨un, ut, ux, ui, rfl, oR, b2⟩
    obtain ⟨pa, pc, rfl, _⟩ := oR.hasR.name.form
    obtain ⟨qa, qc, rfl, _⟩ := oR.hasR.to.form
    obtain ⟨ya, yc, rfl, _⟩ := oR.hasR.text.form
    obtain ⟨za, zc, rfl, _⟩ := oR.hasR.nums.form
    have OR := UC oR
    have B2 := UC b2
    have z2 := b2.size
    have cZ2 : w2.cell? ⟨w.heap.size + 1 + 1, 0, none⟩ = some (.slice ra nl rc) := US (UE b2 (UB KZ))
    clear oR b2
    go_simp
    refine UB HK _ _ cZ2 ?_
    clear HK K cZ cZ2
    try simp only [Act.put, List.setIfInBounds_toArray, List.set_cons_zero, List.set_cons_succ]
    have b3 := UI (w := w2) (.cells #[.slice pa r.name.length pc, .int .i64 r.type, .int .i64 r.ttl, .int .i64 r.addr, .slice qa r.to.length qc, .slice ya r.text.length yc, .slice za r.nums.length zc] 39)
    have g3 := heap_alloc_new w2 (.cells #[.slice pa r.name.length pc, .int .i64 r.type, .int .i64 r.ttl, .int .i64 r.addr, .slice qa r.to.length qc, .slice ya r.text.length yc, .slice za r.nums.length zc] 39)
    have k3 := UE b3 (UE (UB B2) (UB KZ))
    have row3 := ((UB ROW).below (UB B2)).below b3
    have OR3 := UC ((UB OR).below b3)
    have kt3 := UE b3 (UE (UB B2) (UB KTT))
    have kb3 := UE b3 (UE (UB B2) (UB KBB))
    have bb3 := UG (UG (UB BB) (UB B2)) b3
    have z3 := b3.size
    have B3 := UC b3
    have G3 := UC g3
    have K3 := UC k3
    have ROW3 := UC row3
    have KT3 := UC kt3
    have KB3 := UC kb3
    have BB3 := UC bb3
    have cZ3 : (w2.alloc (.cells #[.slice pa r.name.length pc, .int .i64 r.type, .int .i64 r.ttl, .int .i64 r.addr, .slice qa r.to.length qc, .slice ya r.text.length yc, .slice za r.nums.length zc] 39)).cell? ⟨w.heap.size + 1 + 1, 0, none⟩ = some (.slice ra nl rc) := US k3
    clear b3 g3 k3 row3 kt3 kb3 bb3 ROW KTT KBB KX HR HSS OR
    refine Al (js := [3]) (by kernel_rfl) (by simp) (AllT.cons (o := ⟨some 26, Op.buildSlice 26 1 #[(0, Operand.tmp 25)], 26, "l05_zone.go:125", #[⟨2, .data⟩], none⟩) rfl (fun K hK => ?_) AllT.nil)
    have HK := UC hK
    clear hK
    go_simp
    refine UB HK _ _ cZ3 ?_
    clear HK K cZ3
    try simp only [Act.put, List.setIfInBounds_toArray, List.set_cons_zero, List.set_cons_succ]
    generalize w2.alloc (.cells #[.slice pa r.name.length pc, .int .i64 r.type, .int .i64 r.ttl, .int .i64 r.addr, .slice qa r.to.length qc, .slice ya r.text.length yc, .slice za r.nums.length zc] 39) = w3 at *
    refine AnyT.over _ _ _ _ (by kernel_rfl) ?_
    refine wpAny_ready (rs := [4]) (by kernel_rfl) (by simp) (AllReady.cons (o := ⟨some 27, Op.call { callee := Callee.builtin Builtin.append, args := #[Operand.tmp 23, Operand.tmp 26], argTypes := #[26, 26] }, 26, "l05_zone.go:125", #[⟨0, .data⟩, ⟨3, .data⟩, ⟨2, .chain⟩], none⟩) rfl (fun K hK => ?_) AllReady.nil)
    have HK := UC hK
    clear hK
    obtain ⟨xs3, f3, gf3, hx3, hq3, hh3⟩ := UB ROW3
    rw [UB HNL] at hx3
    refine E0 rfl (.tmp 23) (.tmp 26) 26 39 rfl Tryz.underlying26 _ Nf rfl (w.heap.size + 3) (.slice ra nl rc) nl (by simp [Act.eval]) w2.heap.size [.slice pa r.name.length pc, .int .i64 r.type, .int .i64 r.ttl, .int .i64 r.addr, .slice qa r.to.length qc, .slice ya r.text.length yc, .slice za r.nums.length zc] (by simp [Act.eval]) ⟨xs3, hx3⟩ (UB G3) rfl (by simp [Value.oneCell']) (by omega) (by omega) ?_
    intro v4 w4 ho4 g4 hw4
    have row4 := RowO.snoc (UB ROW3) (C := Wd.heap.size) (D := w2.heap.size) zd z3 (UB OR3) (by omega) g4 hw4 (by rw [UB HNL]; exact ho4)
    have u4 : Ap (w.heap.size + 3) w3.heap.size w3 w4 := Cx g4 (fun k hk => World.ownsRow.lt hx3 k hk)
    have k4 := Aa g4 (UB K3) (Dh hx3 (UB K3) (by decide))
    have kt4 := Aa g4 (UB KT3) (Dh hx3 (UB KT3) (by decide))
    have kb4 := Aa g4 (UB KB3) (Dh hx3 (UB KB3) (by decide))
    have kf := Gw (B := W0.heap.size) (j := 0) (v4 := v4) (UB BD) (UB B2) (UB B3) g4 (fun k o h1 h2 => Ia hx3 h1 h2) k4
    have u5 := UT w4 (w.heap.size + 2) 0 v4
    have z4 := u4.size
    have z5 := u5.size
    have bel : Below w.heap.size W (w4.setCell ⟨w.heap.size + 2, 0, none⟩ v4) := u5.belowAt (u4.belowAt (((UB BD).mono (by omega)).trans (((UB B2).mono (by omega)).trans ((UB B3).mono (by omega)))) (by omega) (by omega)) (by omega) (by omega)
    have bb5 : Below w.heap.size w (w4.setCell ⟨w.heap.size + 2, 0, none⟩ v4) := u5.below (u4.below (UB BB3) (by omega)) (by omega)
    have FIN : Hid (GotS w w mb w1.heap.size t (pre ++ [⟨((.slice na r.name.length nc, .slice ta r.to.length tc, .slice xa r.text.length xc, .slice ia r.nums.length ic), r), hRR⟩]) (w4.setCell ⟨w.heap.size + 2, 0, none⟩ v4)) := ⟨⟨v4, UV k4 0 v4, by rw [List.map_append, List.filter_append, UB HSEL, List.map_cons, List.map_nil, List.filter_cons_of_pos (UB HST), List.filter_nil]; exact (row4.outside u5 (.inr (Nat.le_refl _))).wide (Nat.le_refl _) z5⟩, u5.kept kt4 (by omega), u5.kept kb4 (by omega), bb5⟩
    have KPS : Hid (KpS w.heap.size w1.heap.size W (w4.setCell ⟨w.heap.size + 2, 0, none⟩ v4)) := by
     refine ⟨⟨bel, fun c' t' q => ?_⟩, fun g c' q => ?_⟩
     ·rw [UB KB0] at q
      cases q
      exact u5.kept kb4 (by omega)
     ·have q3 := UE (UB B3) (UE (UB B2) (UE (UB BD) q))
      have q4 := Aa g4 q3 (Dh hx3 q3 (by decide))
      refine Aa (Ab w4 ⟨w.heap.size + 2, 0, none⟩ v4) q4 ?_
      intro e
      simp only [Option.some.injEq] at e
      rw [← e, k4] at q4
      cases q4
    have KF := UC kf
    have c4 : w4.cell? ⟨w.heap.size + 1 + 1, 0, none⟩ = some (.slice ra nl rc) := US k4
    have f4 : w4.frozen? ⟨w.heap.size + 1 + 1, 0, none⟩ = false := VG k4 0
    obtain ⟨v4a, v4c, hv4, _⟩ := row4.form
    rw [List.length_append, UB HNL] at hv4
    replace hv4 : v4 = .slice v4a (nl + 1) v4c := hv4
    subst hv4
    clear row4 u4 k4 kt4 kb4 kf u5 bel bb5 ho4 g4 hw4 hx3 hq3 hh3 ROW3 OR3 KT3 KB3 BB3 G3 K3 B2 B3 BD BB
    refine UB HK _ _ ?_
    clear HK K
    try simp only [Act.put, List.setIfInBounds_toArray, List.set_cons_zero, List.set_cons_succ]
    refine wpAny_ready (rs := [5]) (by kernel_rfl) (by simp) (AllReady.cons (o := ⟨none, Op.store 26 (.tmp 7) (.tmp 27), 0, "l05_zone.go:125", #[⟨4, .data⟩, ⟨4, .chain⟩, ⟨0, .phase⟩, ⟨1, .phase⟩, ⟨2, .phase⟩, ⟨3, .phase⟩, ⟨4, .phase⟩], none⟩) rfl (fun K hK => ?_) AllReady.nil)
    have HK := UC hK
    clear hK
    go_simp
    refine UB HK _ _ ?_
    clear HK K
    refine wpAny_done (by kernel_rfl) ?_ _
    exact ⟨UB KF, UB KPS, UB FIN⟩
 case done =>
  rintro D xs W hD hS ⟨⟨vr, kZ, hrow⟩, kT, kB, hB⟩ hK
  rw [hS] at hrow
  obtain ⟨ra, rc, rfl, _⟩ := hrow.form
  have e0 := US kZ
  have ROW := UC hrow
  have BB := UC hB
  have HKK := UC hK
  have zD := VC hK
  have zZ := VC kZ
  clear kZ kT kB hrow hB hK kz kt ko
  gi_wp2
  refine ⟨by simp, .inl ⟨_, _, rfl, run_takeDeferred (UB HKK), ?_⟩⟩
  have hkk := D7 (grownBy_putObj' W D (.deferred none)) (fun r e => by cases e; exact ⟨_, UB HKK, rfl⟩)
  have zp := (grownBy_putObj' W D (.deferred none)).size
  exact ⟨_, results_tmp rfl _ _ _, _, rfl, ((UB ROW).keptC hkk).wide (by omega) (by omega), (UB BB).trans (belowK_b (w := w) (Nat.le_refl _) W D _ _ (by omega) (UB HKK) rfl rfl)⟩
 case stop =>
  rintro D c pre W _ _ h _
  exact h.elim
end Go.Proofs.YtfneahdnpmamkaaGreat

namespace Go.Proofs.YtfneahdnpmamkaaGreat
open Go.RowKit
set_option linter.unusedVariables false

def eqT (a b : List Int) : Bool := (strOfNums a).toList == (strOfNums b).toList
def Eb (l : List Rec) (id : List Int) : Bool := l.all (fun r => eqT r.text id) && !l.isEmpty
def E8 (o : List (List Int)) (rs : List Rec) (n : List (List Int)) (id : List Int) : Bool × Bool :=
 if Ar o rs = true ∧ Ag n = true then ((selK n 255 rs rs.length).isEmpty, Eb (selK n 49 rs rs.length) id) else (false, false)
theorem Vx {l : List Rec} {i : Nat} (h : i < l.length) : l.getD i recZ ∈ l := by
 rw [List.getD_eq_getElem?_getD, List.getElem?_eq_getElem h]
 exact List.getElem_mem h
theorem Xc {l : List Rec} {r : Rec} (h : r ∈ l) : ∃ i, i < l.length ∧ l.getD i recZ = r := by
 obtain ⟨i, h1, h2⟩ := List.getElem_of_mem h
 exact ⟨i, h1, by rw [List.getD_eq_getElem?_getD, List.getElem?_eq_getElem h1]; exact h2⟩
theorem Xg {l : List Rec} {id : List Int} (h : ∀ i, i < l.length → eqT (l.getD i recZ).text id = true) : Eb l id = decide (0 < l.length) := by
 unfold Eb
 have ha : l.all (fun r => eqT r.text id) = true := by
  rw [List.all_eq_true]
  intro r hr
  obtain ⟨i, hi, rfl⟩ := Xc hr
  exact h i hi
 rw [ha, Bool.true_and]
 cases l <;> simp
theorem Ux {l : List Rec} {id : List Int} {i : Nat} (hi : i < l.length) (h : eqT (l.getD i recZ).text id = false) : Eb l id = false := by
 unfold Eb
 rw [Bool.and_eq_false_iff]
 left
 rw [List.all_eq_false]
 exact ⟨_, Vx hi, by rw [h]; exact Bool.false_ne_true⟩
end Go.Proofs.YtfneahdnpmamkaaGreat

namespace Go.Proofs
open Go.Shelf
def Tryz.lays190_ren : Go.Shelf.Ren := ⟨fun | 190 => 100 | 125 => 109 | 258 => 108 | 128 => 119 | 129 => 120 | 302 => 110 | 303 => 111 | 304 => 112 | 305 => 113 | 306 => 114 | 307 => 115 | 308 => 116 | 309 => 117 | 310 => 118 | 333 => 121 | 329 => 122 | 330 => 123 | 334 => 124 | 335 => 125 | 336 => 126 | 344 => 127 | n => n, fun | 31 => 68 | 9 => 9 | 3 => 3 | 46 => 94 | 0 => 0 | 51 => 90 | 53 => 150 | 4 => 4 | 183 => 141 | 182 => 140 | 131 => 146 | 5 => 5 | 218 => 151 | 222 => 155 | 228 => 157 | 229 => 158 | n => n, fun | n => n⟩
theorem Tryz.lays190 : Go.Proofs.Lays.n190 Tryz.prog Tryz.lays190_ren := {
  mixed := by kernel_rfl
  f125 := Tryz.func109.trans (congrArg some (by kernel_rfl))
  f128 := Tryz.func119.trans (congrArg some (by kernel_rfl))
  f129 := Tryz.func120.trans (congrArg some (by kernel_rfl))
  f190 := Tryz.func100.trans (congrArg some (by kernel_rfl))
  f258 := Tryz.func108.trans (congrArg some (by kernel_rfl))
  f302 := Tryz.func110.trans (congrArg some (by kernel_rfl))
  f303 := Tryz.func111.trans (congrArg some (by kernel_rfl))
  f304 := Tryz.func112.trans (congrArg some (by kernel_rfl))
  f305 := Tryz.func113.trans (congrArg some (by kernel_rfl))
  f306 := Tryz.func114.trans (congrArg some (by kernel_rfl))
  f307 := Tryz.func115.trans (congrArg some (by kernel_rfl))
  f308 := Tryz.func116.trans (congrArg some (by kernel_rfl))
  f309 := Tryz.func117.trans (congrArg some (by kernel_rfl))
  f310 := Tryz.func118.trans (congrArg some (by kernel_rfl))
  f329 := Tryz.func122.trans (congrArg some (by kernel_rfl))
  f330 := Tryz.func123.trans (congrArg some (by kernel_rfl))
  f333 := Tryz.func121.trans (congrArg some (by kernel_rfl))
  f334 := Tryz.func124.trans (congrArg some (by kernel_rfl))
  f335 := Tryz.func125.trans (congrArg some (by kernel_rfl))
  f336 := Tryz.func126.trans (congrArg some (by kernel_rfl))
  f344 := Tryz.func127.trans (congrArg some (by kernel_rfl))
  t0 := Tryz.underlying0
  a0 := Tryz.isAgg0
  z0 := Tryz.sizeOf0
  v0 := Tryz.zeroValue0
  t3 := Tryz.underlying3
  a3 := Tryz.isAgg3
  z3 := Tryz.sizeOf3
  v3 := Tryz.zeroValue3
  t4 := Tryz.underlying4
  a4 := Tryz.isAgg4
  z4 := Tryz.sizeOf4
  v4 := Tryz.zeroValue4
  t5 := Tryz.underlying5
  a5 := Tryz.isAgg5
  z5 := Tryz.sizeOf5
  v5 := Tryz.zeroValue5
  t9 := Tryz.underlying9
  a9 := Tryz.isAgg9
  z9 := Tryz.sizeOf9
  v9 := Tryz.zeroValue9
  t31 := Tryz.underlying68
  a31 := Tryz.isAgg68
  z31 := Tryz.sizeOf68
  v31 := Tryz.zeroValue68
  t46 := Tryz.underlying94
  a46 := Tryz.isAgg94
  z46 := Tryz.sizeOf94
  v46 := Tryz.zeroValue94
  t51 := Tryz.underlying90
  a51 := Tryz.isAgg90
  z51 := Tryz.sizeOf90
  v51 := Tryz.zeroValue90
  t53 := Tryz.underlying150
  a53 := Tryz.isAgg150
  z53 := Tryz.sizeOf150
  v53 := Tryz.zeroValue150
  t131 := Tryz.underlying146
  a131 := Tryz.isAgg146
  z131 := Tryz.sizeOf146
  v131 := Tryz.zeroValue146
  t182 := Tryz.underlying140
  a182 := Tryz.isAgg140
  z182 := Tryz.sizeOf140
  v182 := Tryz.zeroValue140
  t183 := Tryz.underlying141
  a183 := Tryz.isAgg141
  z183 := Tryz.sizeOf141
  v183 := Tryz.zeroValue141
  t218 := Tryz.underlying151
  a218 := Tryz.isAgg151
  z218 := Tryz.sizeOf151
  v218 := Tryz.zeroValue151
  t222 := Tryz.underlying155
  a222 := Tryz.isAgg155
  z222 := Tryz.sizeOf155
  v222 := Tryz.zeroValue155
  t228 := Tryz.underlying157
  a228 := Tryz.isAgg157
  z228 := Tryz.sizeOf157
  v228 := Tryz.zeroValue157
  t229 := Tryz.underlying158
  a229 := Tryz.isAgg158
  z229 := Tryz.sizeOf158
  v229 := Tryz.zeroValue158 }
open Go.Sort Go.RowKit in
theorem Tryz.slices_Sort_string (blk off cap : Nat) (ss : List (List UInt8)) (w : World) (hH : Holds encStr w blk off ss.toArray) (hblk : blk < w.heap.size) (hsz : ss.length < 4611686018427387904) :
    Calls Tryz.prog 100 #[.slice (some ⟨blk, off, none⟩) ss.length cap] w fun e w' =>
      e = .returned (.tuple #[]) ∧ ∃ n os, w' = grow (putRow encStr (Sort.ahead w n) blk off (ss.mergeSort fun x y => decide (x ≤ y)).toArray) os := Any.slices_Sort_string Tryz.lays190 blk off cap ss w hH hblk hsz
open Go.RowKit Go.Sort in
theorem Tryz.slices_Sort_string_none (p : Option Addr) (cap : Nat) (w : World) :
    Calls Tryz.prog 100 #[.slice p 0 cap] w fun e w' => e = .returned (.tuple #[]) ∧ w' = w := Any.slices_Sort_string_none Tryz.lays190 p cap w
def Tryz.lays115_ren : Go.Shelf.Ren := ⟨fun | 115 => 47 | n => n, fun | 37 => 22 | 4 => 4 | 9 => 9 | 5 => 5 | n => n, fun | n => n⟩
theorem Tryz.lays115 : Go.Proofs.Lays.n115 Tryz.prog Tryz.lays115_ren := {
  mixed := by kernel_rfl
  f115 := Tryz.func47.trans (congrArg some (by kernel_rfl))
  t4 := Tryz.underlying4
  a4 := Tryz.isAgg4
  z4 := Tryz.sizeOf4
  v4 := Tryz.zeroValue4
  t9 := Tryz.underlying9
  a9 := Tryz.isAgg9
  z9 := Tryz.sizeOf9
  v9 := Tryz.zeroValue9
  t37 := Tryz.underlying22
  a37 := Tryz.isAgg22
  z37 := Tryz.sizeOf22
  v37 := Tryz.zeroValue22 }
open Go.Proofs Go.RowKit Go.Lib in
theorem Tryz.bytes_Equal_strs (v1 v2 : Value) (t1 t2 : ByteArray) (w : World) (h1 : (convert 22 9 v1).run Tryz.prog w = .ok (.string t1) w) (h2 : (convert 22 9 v2).run Tryz.prog w = .ok (.string t2) w) :
    Calls Tryz.prog 47 #[v1, v2] w fun e w' => e = .returned (.bool (t1.toList == t2.toList)) ∧ w' = w := Any.bytes_Equal_strs Tryz.lays115 v1 v2 t1 t2 w h1 h2
end Go.Proofs
