/-
  The program's ascending, at pages, as what a loop ranges over: the records by ascending keys. Contract of the program's nameKey: a name as a text that ascends as names do. Contracts of the program's Put16.
-/
import Derived.Test.YthobpbnaklnbiaaGreatFnLookupsG40
import Derived.Test.YthobpbnaklnbiaaGreatFnLookupsG31
import Derived.Test.YthobpbnaklnbiaaGreatFnLookupsG10
import Derived.Test.YthobpbnaklnbiaaGreatFnLookupsG09
import Derived.Test.YthobpbnaklnbiaaGreatFnLookupsG01
import Derived.Test.YthobpbnaklnbiaaGreatFnLookupsG05
import Derived.Test.YthobpbnaklnbiaaGreatFnLookupsG02
import Derived.Test.YthobpbnaklnbiaaGreatFnLookupsG17
import Derived.RangeFuncBox
import Derived.Test.YthobpbnaklnbiaaGreatFnLookupsG30
import Derived.Test.YthobpbnaklnbiaaGreatFnLookupsG32
namespace Go.Proofs.YthobpbnaklnbiaaGreat
open Go.RowKit Go.Shelf
set_option linter.unusedVariables false
set_option maxHeartbeats 4000000
set_option maxRecDepth 100000

def KpS (n0 Bt : Nat) (W W' : World) : Prop := KpB n0 Bt W W' ∧ ∀ (g : Nat) c, W.heap[g]? = some (Obj.cells c 9) → W'.heap[g]? = some (Obj.cells c 9)
theorem kpS_t {n0 Bt : Nat} {A B C : World} (h : KpS n0 Bt A B) (k : KpS n0 Bt B C) : KpS n0 Bt A C := ⟨kpB_t h.1 k.1, fun g c q => k.2 g c (h.2 g c q)⟩
theorem kpS_b {n0 Bt : Nat} {w : World} (hn : n0 ≤ w.heap.size) (W : World) (l : Nat) (o o' : Obj) (hl : w.heap.size ≤ l) (h : W.heap[l]? = some o) (h1 : o.isCells = false) (h2 : o.isWalk = false) : KpS n0 Bt W (W.putObj l o') :=
 ⟨kpB_b hn W l o o' hl h h1 h2, fun g c q => keptC_of (grownBy_putObj' W l o') (fun r e => by cases e; exact ⟨_, h, h1⟩) _ _ _ q⟩
theorem row_keptS {W W' : World} {B n s : Nat} {v : Value} {xs : List Value} (h : W.ownsRow B 9 s v n xs) (hk : ∀ (g : Nat) c, W.heap[g]? = some (Obj.cells c 9) → W'.heap[g]? = some (Obj.cells c 9)) : W'.ownsRow B 9 s v n xs := by
 obtain ⟨h1, h2⟩ := h
 rcases h2 with h2 | ⟨g, cap, c, h3, h4, h5, h6⟩
 ·exact ⟨h1, .inl h2⟩
 ·exact ⟨h1, .inr ⟨g, cap, c, h3, h4, hk _ _ h5, h6⟩⟩
theorem row_slice {W : World} {B n s : Nat} {e : TypeId} {v : Value} {xs : List Value} (h : W.ownsRow B e s v n xs) : ∃ (a : Option Addr) (c : Nat), v = .slice a n c := by
 obtain ⟨_, h2⟩ := h
 rcases h2 with ⟨rfl, rfl⟩ | ⟨g, cap, c, rfl, _⟩
 ·exact ⟨none, 0, rfl⟩
 ·exact ⟨_, cap, rfl⟩
theorem zero_rrV (w : World) : (zeroValue 39).run Tryz.prog w = .ok (.agg #[.slice none 0 0, .int .i64 0, .int .i64 0, .int .i64 0, .slice none 0 0, .slice none 0 0, .slice none 0 0]) w := by
 have h : (Tryz.prog.info? 39).map (fun i => i.zero) = some (some (.agg #[.slice none 0 0, .int .i64 0, .int .i64 0, .int .i64 0, .slice none 0 0, .slice none 0 0, .slice none 0 0])) := by kernel_rfl
 obtain ⟨i, h1, h2⟩ := Option.map_eq_some_iff.1 h
 simp [zeroValue, typeInfo, h1, h2, go_sem]
theorem sortedOpt_in {w : World} {mb : Option Nat} {P : Pg} (h : OptPage w mb P) (hl : P.length ≤ 1000) :
  CallsIn Fence.wide 5 Tryz.prog 88 #[.func (.func 114) #[] #[.pointer (some ⟨w.heap.size, 0, none⟩)]] (w.alloc (.cells #[.map mb] 79)) fun e w' => ∃ v, e = .returned v ∧
   w'.ownsRow (w.heap.size + 1) 9 1 v (keysP P).length ((keysP P).map encStr) ∧ Below w.heap.size w w' := by
 rcases h with ⟨rfl, rfl⟩ | ⟨p, rfl, ps, hM, hT⟩
 ·refine (sortedNil_in w).mono ?_
  rintro e w' ⟨v, he, hr, hb⟩
  exact ⟨v, he, by simpa [keysP] using hr, hb⟩
 ·have e1 := two_keysP hT
  have e2 : ps.length = P.length := by rw [← keysP_length ps, e1, keysP_length]
  refine (sortedOf_in hM (by omega)).mono ?_
  rintro e w' ⟨v, he, hr, hb⟩
  rw [e1, e2, ← keysP_length P] at hr
  exact ⟨v, he, hr, hb⟩
theorem at_key {w : World} {mb : Option Nat} {P : Pg} (h : OptPage w mb P) {k : List UInt8} (hk : k ∈ keysP P) : ∃ p ps vn vt vx vi u, mb = some p ∧ MapV w p ps ∧ lookA ⟨k.toArray⟩ ps = some (.agg #[vn, .int .i64 u.type, .int .i64 u.ttl, .int .i64 u.addr, vt, vx, vi]) ∧ lookA ⟨k.toArray⟩ P = some u ∧ HasR w vn vt vx vi u := by
 rcases h with ⟨rfl, rfl⟩ | ⟨p, rfl, ps, hM, hT⟩
 ·simp [keysP] at hk
 ·rw [← two_keysP hT] at hk
  obtain ⟨v, hv⟩ := keysP_mem hk
  obtain ⟨u, h1, vn, vt, vx, vi, rfl, h2⟩ := two_mem hT hM.apart hv
  exact ⟨p, ps, vn, vt, vx, vi, u, rfl, hM, lookA_mem hM.apart hv, h1, h2⟩
theorem key_size {w : World} {p : Nat} {ps : List (ByteArray × Value)} (h : MapV w p ps) {k : ByteArray} {v : Value} (hk : lookA k ps = some v) : k.size ≤ maxLen := by
 obtain ⟨es, clock, _, _, hK, rfl⟩ := h
 obtain ⟨x, hx, he⟩ := List.mem_map.1 (lookA_in hk)
 obtain ⟨s, h1, h2⟩ := hK x hx
 simp only [toPV, h1, keyE, Prod.mk.injEq] at he
 rw [← he.1]
 exact h2

theorem asc1_in (l Bt n0 : Nat) (w0 : World) (mb : Option Nat) (P : Pg) (hn0 : n0 = w0.heap.size) (hP : OptPage w0 mb P) (hl : P.length ≤ 1000) (hsh : ∀ x ∈ P, ShortR x.2)
  (J Jx : List (RecV w0) → World → Prop) (W : World) (hW : Below n0 w0 W) (hJ : AbidesFrom W.heap.size J)
  (hY : ∀ pre x W1, J pre W1 → pre.length < (keysP P).length → YieldAt Fence.wide 5 Tryz.prog l (encV x) W1 fun e W' => (e = .returned (.bool true) ∧ J (pre ++ [x]) W' ∧ KpS n0 Bt W1 W') ∨ (e = .returned (.bool false) ∧ Jx (pre ++ [x]) W'))
  (hBt : W.heap[Bt]? = some (.cells #[.map mb] 79)) (h0 : J [] W) :
  CallsIn Fence.wide 6 Tryz.prog 87 #[.func (.yield l) #[] #[], .pointer (some ⟨Bt, 0, none⟩)] W fun e W' => (∃ v, e = .returned v) ∧
   ((∃ xs, xs.map (·.1.2) = sortP P ∧ J xs W') ∨ (∃ pre, True ∧ Jx pre W')) := by
 subst hn0
 have hPW : OptPage W mb P := by
  rcases hP with hP | ⟨p, h1, h2⟩
  ·exact .inl hP
  ·exact .inr ⟨p, h1, h2.kept (hW.block p h2.lt) (keptX_below (hW.mono (Nat.le_refl _)))⟩
 have HSO := UC (sortedOpt_in hPW hl)
 have HP := UC hP
 have HS := UC hsh
 have HJ := UC hJ
 have HY := UC hY
 have B0 := UC hW
 have H0 := UC h0
 have KB := UC hBt
 have cB := US hBt
 have zB := VC hBt
 clear hP hPW hsh hJ hY hW h0 hBt
 refine callsIn_of_wp Tryz.func87 rfl trivial ?_ rfl
 simp only [Tryz.ntmps87, List.size_toArray, List.length_cons, List.length_nil, Nat.reduceAdd, Nat.reduceSub, Array.replicate_succ, Array.replicate_zero, List.push_toArray, List.append_toArray, List.nil_append, List.cons_append]
 gi_wp2_with (first
  | (refine ⟨trivial, ?_⟩; gi_at_call 89; refine (keysOf_in _ _).mono ?_; rintro e w' ⟨rfl, rfl⟩)
  | (refine ⟨trivial, ?_⟩; gi_at_call 88; refine (UB HSO).mono ?_; rintro e w2 ⟨v2, rfl, hrow, b2⟩; have hrow' := hrow; obtain ⟨g2, c2, rfl⟩ := row_slice hrow'))
 clear cB HSO hrow'
 have hj2 : J [] w2 := UB HJ [] W w2 none (UB H0) ⟨b2.os, b2.tape, b2.output, b2.size, fun k hk _ => b2.block k hk⟩ (fun r e => by cases e)
 have kb2 := UE b2 (UB KB)
 have bb2 := (UB B0).trans (b2.mono (UB B0).size)
 have ROW := UC hrow
 have hkl : (keysP P).length ≤ 1000 := by rw [keysP_length]; exact hl
 generalize hks : keysP P = ks at *
 have HKS := UC hks
 clear hrow hks H0 KB
 generalize hm : ks.length = m at *
 have HM := UC hm
 clear hm
 gi_loopw [9] (fun i wr => ∃ (k : Nat) (pre : List (RecV w0)), k ≤ m ∧ i = .int .i64 k ∧ pre.length = k ∧ pre.map (·.1.2) = (ks.take k).map (atKey P) ∧ J pre wr ∧ Below w0.heap.size w0 wr ∧ wr.heap[Bt]? = some (.cells #[.map mb] 79) ∧ wr.ownsRow (W.heap.size + 1) 9 1 (.slice g2 m c2) m (ks.map encStr)) (fun i _ => m - (intOf i).toNat)
 case atStart => exact ⟨0, [], Nat.zero_le _, rfl, rfl, by simp, hj2, bb2, kb2, UB ROW⟩
 case round =>
  obtain ⟨k, pre, hk, rfl, hpl, hp, hj, hbl, hkb, hrw⟩ := hrel
  by_cases hlt : k < m
  ·have hkk : k < ks.length := by rw [UB HM]; exact hlt
   obtain ⟨p, ps, vn, vt, vx, vi, u, rfl, hMp, hlk, hlu, hR⟩ := at_key (k := ks[k]) (UB HP) (by rw [UB HKS]; exact List.getElem_mem hkk)
   have hs := UB HS _ (lookA_in hlu)
   simp only at hs
   obtain ⟨na, nc, rfl, _⟩ := hR.name.form
   obtain ⟨ta, tc, rfl, _⟩ := hR.to.form
   obtain ⟨xa, xc, rfl, _⟩ := hR.text.form
   obtain ⟨ia, ic, rfl, _⟩ := hR.nums.form
   have htk := UC (show (ks.take (k + 1)).map (atKey P) = (ks.take k).map (atKey P) ++ [u] by rw [List.take_succ_eq_append_getElem hkk, List.map_append, List.map_cons, List.map_nil]; simp only [atKey, hlu, Option.getD_some])
   have hlook := mapV_look (t := 79) Tryz.underlying79 Tryz.underlying9 (zero_rrV wr) (hMp.kept (hbl.block p hMp.lt)) ⟨ks[k].toArray⟩ (key_size hMp hlk)
   rw [hlk] at hlook
   simp only [Option.getD_some] at hlook
   have hgs : ∃ gg, g2 = some ⟨gg, 0, none⟩ := by
    rcases hrw.2 with ⟨h1, h2⟩ | ⟨gg, cap, cc, h1, _⟩
    ·omega
    ·simp only [Value.slice.injEq] at h1
     exact ⟨gg, h1.1⟩
   obtain ⟨gg, rfl⟩ := hgs
   have ck := World.ownsRow.cellAt hrw k (by omega)
   rw [List.getElem?_map, List.getElem?_eq_getElem hkk] at ck
   simp only [Option.map_some] at ck
   have cB := US hkb
   obtain ⟨x, hx1, hx2⟩ : ∃ x : RecV w0, encV x = #[.agg #[.slice na u.name.length nc, .int .i64 u.type, .int .i64 u.ttl, .int .i64 u.addr, .slice ta u.to.length tc, .slice xa u.text.length xc, .slice ia u.nums.length ic]] ∧ x.1.2 = u := ⟨⟨((.slice na u.name.length nc, .slice ta u.to.length tc, .slice xa u.text.length xc, .slice ia u.nums.length ic), u), hR, hs⟩, rfl, rfl⟩
   obtain ⟨fn, tmps, assign, body, hy, hRd⟩ := UB HY pre x wr hj (by omega)
   rw [hx1] at hy
   have HB := UC hbl
   have HRW := UC hrw
   have KBB := UC hkb
   generalize ks[k] = kk at *
   clear hR hs hbl hrw hkb hMp hlk hlu hj
   gi_wp2
   refine hRd.mono ?_
   rintro e W3 (⟨rfl, hJ3, hk3⟩ | ⟨rfl, hJx3⟩)
   ·have hb3 := (UB HB).trans hk3.1.1
    have hkb3 := hk3.1.2 _ _ (UB KBB)
    have hrw3 := row_keptS (UB HRW) hk3.2
    clear hy hRd hk3 HB ck cB hlook KBB HRW
    gi_wp2
    go_roundw
    case rel => exact ⟨k + 1, pre ++ [x], by omega, by go_num, by simp [hpl], by rw [UB htk, ← hp]; simp [hx2], hJ3, hb3, hkb3, hrw3⟩
    case measure => simp [intOf]; omega
   ·clear hy hRd HB ck cB hlook KBB HRW
    gi_wp2
    refine bodyPost_ret (results_none rfl _ _ _) rfl ?_
    exact ⟨⟨_, rfl⟩, .inr ⟨pre ++ [x], trivial, hJx3⟩⟩
  ·obtain rfl : k = m := by omega
   have hall : ks.take k = ks := List.take_of_length_le (by rw [UB HM]; exact Nat.le_refl _)
   rw [hall] at hp
   clear hall
   gi_wp2
   go_end0
   exact ⟨⟨_, rfl⟩, .inl ⟨pre, by rw [hp]; unfold sortP; rw [UB HKS], hj⟩⟩
theorem asc_stops (Bt : Nat) (w0 w : World) (mb : Option Nat) (P : Pg) (hP : OptPage w0 mb P) (hl : P.length ≤ 1000) (hsh : ∀ x ∈ P, ShortR x.2) (hb : Below w0.heap.size w0 w) (hBt : w.heap[Bt]? = some (.cells #[.map mb] 79)) :
  SeqStopsK Fence.wide 6 Tryz.prog 87 #[.pointer (some ⟨Bt, 0, none⟩)] (fun x : RecV w0 => encV x) (KpS w0.heap.size Bt) (fun xs => xs.map (·.1.2) = sortP P) (fun _ => True) (keysP P).length w :=
 fun l J Jx W hW hJ hJx hY h0 => asc1_in l Bt _ w0 mb P rfl hP hl hsh J Jx W (hb.trans (hW.mono hb.size)) hJ hY (UE hW hBt) h0
theorem asc_any (mb : Option Nat) (w : World) : Calls Tryz.prog 56 #[.map mb] w fun e w' => e = .returned (.func (.func 87) #[] #[.pointer (some ⟨w.heap.size, 0, none⟩)]) ∧ w' = w.alloc (.cells #[.map mb] 79) := by
 go_enter Tryz.func56, Tryz.ntmps56
 go_wp2
 go_ret
 exact ⟨rfl, rfl⟩
end Go.Proofs.YthobpbnaklnbiaaGreat

namespace Go.Proofs.YthobpbnaklnbiaaGreat
open Go.RowKit Go.Shelf
set_option linter.unusedVariables false

def GotK (w w0 : World) (pre : List (LabV w0)) (W : World) : Prop :=
 (∃ v, W.heap[w.heap.size + 1]? = some (.cells #[v] 22) ∧ Own (w.heap.size + 3) 5 W v (keyP (pre.map (·.1.2)))) ∧ Below w.heap.size w W
theorem gotK_own (w w0 : World) (B : Nat) (hB : w.heap.size ≤ B) : OwnFrom B (GotK w w0) := by
 intro s W W' row ⟨⟨v, h1, h2⟩, hb⟩ hg hr
 have hk := keptC_of hg (fun r e => (hr r e).2)
 exact ⟨⟨v, hk _ _ _ h1, row_keptC h2 hk⟩, hb.grown hg hb.size (fun k e => by have := (hr k e).1; omega)⟩

theorem key_kept {B b : Nat} {e : TypeId} {W w1 w3 : World} {v v1 : Value} {l l1 : List Int} {o : Obj} {lit : Obj} (h : Own B e W v l) (k : W.heap[b]? = some o) (g1 : W.grownBy w1 v.ownBlock) (h1 : Own B e w1 v1 l1) (g3 : (w1.alloc lit).grownBy w3 v1.ownBlock) (hb : b < B) : w3.heap[b]? = some o := by
 refine block_grown g3 (UE (UI (w := w1) lit) (block_grown g1 k (fun e => by have := (h.lt b e).1; omega))) (fun e => by have := (h1.lt b e).1; omega)
theorem key_keeps {B A b : Nat} {e : TypeId} {W w1 w3 : World} {v v1 u : Value} {l l1 : List Int} {lit : Obj} {c : Array Value} {t : TypeId} (h : Own B e W v l) (g1 : W.grownBy w1 v.ownBlock) (h1 : Own B e w1 v1 l1) (g3 : (w1.alloc lit).grownBy w3 v1.ownBlock) (kb : w3.heap[b]? = some (.cells c t)) : KeepsFrom A W (w3.setCell ⟨b, 0, none⟩ u) := by
 have z := (grown_setCell w3 ⟨b, 0, none⟩ u).size
 have z1 := g1.size
 have z3 := g3.size
 have za := (UI (w := w1) lit).size
 refine ⟨by omega, fun k o hA hk ho => ?_⟩
 have q1 := block_grown g1 hk (row_notC h hk ho)
 have q3 := block_grown g3 (UE (UI (w := w1) lit) q1) (row_notC h1 q1 ho)
 refine block_grown (grown_setCell w3 ⟨b, 0, none⟩ u) q3 ?_
 intro e
 simp only [Option.some.injEq] at e
 subst e
 rw [kb] at q3
 cases q3
 cases ho
theorem key_below {n B b : Nat} {e : TypeId} {W w1 w3 : World} {v v1 u : Value} {l l1 : List Int} {lit : Obj} (h : Own B e W v l) (g1 : W.grownBy w1 v.ownBlock) (h1 : Own B e w1 v1 l1) (g3 : (w1.alloc lit).grownBy w3 v1.ownBlock) (hn : n ≤ W.heap.size) (hb : n ≤ b) (hB : n ≤ B) : Below n W (w3.setCell ⟨b, 0, none⟩ u) := by
 have z1 := g1.size
 have z3 := g3.size
 have za := (UI (w := w1) lit).size
 have x1 := (Below.refl n W).grown g1 hn (fun k e => by have := (h.lt k e).1; omega)
 have x3 := (x1.alloc (by omega) lit).grown g3 (by omega) (fun k e => by have := (h1.lt k e).1; omega)
 exact x3.grown (grown_setCell w3 ⟨b, 0, none⟩ u) (by omega) (fun k e => by simp at e; omega)

set_option maxHeartbeats 1000000 in
set_option maxRecDepth 100000 in
theorem nameKey_in {v : Value} {ns : List (List Int)} {w : World} (h : HasL w v ns) (h1 : ns.length ≤ 6) (h2 : ∀ k, k < ns.length → (ns.getD k []).length ≤ 15) :
  CallsIn Fence.wide 5 Tryz.prog 57 #[.agg #[v]] w fun e w' => e = .returned (.string (strOfNums (keyN ns))) ∧ Below w.heap.size w w' := by
 obtain ⟨a, cap, rfl, _⟩ := h.form
 obtain ⟨hsz, k0, r0⟩ := box2 w (.cells #[.slice a ns.length cap] 25) #[.slice none 0 0] 22
 have b0 := below2 w (.cells #[.slice a ns.length cap] 25) (.cells #[.slice none 0 0] 22)
 have KR := UC r0
 have c0 := US k0
 have HH := UC h
 have zz := VC r0
 have zw := UC hsz
 clear hsz k0 r0 h
 refine callsIn_of_wp_marks Tryz.func57 rfl trivial ?_ rfl
 simp only [Tryz.ntmps57, List.size_toArray, List.length_cons, List.length_nil, Nat.reduceAdd, Nat.reduceSub, Array.replicate_succ, Array.replicate_zero, List.push_toArray, List.append_toArray, List.nil_append, List.cons_append]
 gi_wp2_with (refine ⟨trivial, ?_⟩; gi_at_call 90; refine (callsIn_wide.2 (back_any _ _ _ _)).mono ?_; rintro e w' ⟨rfl, rfl⟩)
 have bz := UI (w := (w.alloc (.cells #[.slice a ns.length cap] 25)).alloc (.cells #[.slice none 0 0] 22)) (.cells #[.slice a ns.length cap] 23)
 have kz := heap_alloc_new ((w.alloc (.cells #[.slice a ns.length cap] 25)).alloc (.cells #[.slice none 0 0] 22)) (.cells #[.slice a ns.length cap] 23)
 have kr := UE bz (UB KR)
 rw [UB zw] at kz
 have hB0 := UG b0 bz
 have zk := VC kz
 clear KR b0 bz c0 zw zz
 generalize hW0 : ((w.alloc (.cells #[.slice a ns.length cap] 25)).alloc (.cells #[.slice none 0 0] 22)).alloc (.cells #[.slice a ns.length cap] 23) = W0 at *
 clear hW0
 refine wpIn_rangeFunc_ownH rfl (by omega) (gf := 115) (lb := #[.pointer (some ⟨w.heap.size + 1 + 1, 0, none⟩)]) rfl trivial (enters_of Tryz.func115 (by kernel_rfl) rfl) (back_stops (w.heap.size + 1 + 1) w W0 a cap ns (UB HH) (by omega) h2 hB0 kz) (fun h k => kpB_t h k) (kpB_b (w := W0) (Nat.le_trans hB0.size (Nat.le_refl _))) (Below.refl _ _) (fun _ => rfl)
  (GotK w w) (fun _ _ _ => False) (gotK_own w w _ hB0.size) (fun _ _ _ _ _ h _ _ => h)
  ⟨⟨.slice none 0 0, kr, World.ownsRow_nil _ _ _ _⟩, hB0⟩
  (fun x a' W => a' = { tmps := #[.agg #[.slice a ns.length cap], .pointer (some ⟨w.heap.size, 0, none⟩), .string { data := #[] }, .pointer (some ⟨w.heap.size + 1, 0, none⟩), undef, x.1.1.2, .pointer (some ⟨w.heap.size, 0, none⟩), .slice a ns.length cap, .func (.func 115) #[] #[.pointer (some ⟨w.heap.size + 1 + 1, 0, none⟩)], .int .i64 x.1.1.1, x.1.1.2, undef, undef, undef, undef, undef, undef, undef], defers := [] })
  (fun x a' _ W W' row h _ _ => h) ?assign ?body ?done ?stop
 case assign =>
  rintro lr pre x W K hi hK
  have hsem := Oper.semAt_some lr
  have HK := UC hK
  have HI := UC hi
  clear hK hi
  unfold encL
  gi_wp2
  exact UB HK _ _ (KeepsFrom.refl _ _) ⟨Below.refl _ _, fun _ _ q => q⟩ (UB HI) rfl
 case body =>
  rintro lr pre x a' W hl ⟨rr, hrr⟩ ⟨⟨v, kO, hO⟩, hB⟩ rfl hlt
  have hsem := Oper.semAt_some lr
  have zz := VC hrr
  obtain ⟨kp, hkp⟩ : ∃ kp, kp = keyP (pre.map (·.1.2)) := ⟨_, rfl⟩
  have hKP : kp.length ≤ 1000 := by
   have := keyP_len (ls := pre.map (·.1.2)) (fun l hl => by obtain ⟨y, _, rfl⟩ := List.mem_map.1 hl; exact y.2.2)
   rw [List.length_map] at this
   rw [hkp]
   omega
  have HKS := UC (show keyP ((pre ++ [x]).map (·.1.2)) = kp ++ x.1.2 ++ [0] by rw [List.map_append, hkp]; exact keyP_snoc _ _)
  rw [← hkp] at hO
  have HX := UC (x.2.1.below hB)
  have htl : x.1.2.length ≤ 15 := x.2.2
  generalize pre ++ [x] = px at *
  generalize x.1.1.2 = u at *
  generalize x.1.2 = t at *
  generalize x.1.1.1 = k at *
  have zW := hB.size
  have cO := US kO
  have zO := VC kO
  have BB := UC hB
  have KO := UC kO
  have OO := UC hO
  have KF := UC (KeepsFrom.refl W0.heap.size W)
  clear hB kO hO hkp
  gi_wp2_with (first
   | (refine append_bytesIn rfl (.tmp 11) (.tmp 12) 22 5 rfl Tryz.underlying22 VJ (w.heap.size + 3) v u kp t (by simp [Act.eval]) (by simp [Act.eval]) (UB OO) (UB HX).reads (by omega) (by omega) ?_; intro v1 w1 o1 g1)
   | (refine append_bytesIn rfl (.tmp 13) (.tmp 14) 22 5 rfl Tryz.underlying22 VJ (w.heap.size + 3) v1 (.slice (some ⟨w1.heap.size, 0, none⟩) 1 1) (kp ++ t) [0] (by simp [Act.eval]) (by simp [Act.eval]) (o1.alloc _) (own_lit w1 0 5 [0] (Nat.zero_le _) (by simp [maxLen])).reads (by simp; omega) (by have := g1.size; simp; omega) ?_; intro v3 w3 o3 g3; have k3 := key_kept (UB OO) (UB KO) g1 o1 g3 (by omega); have c3 := US k3; have f3 := VG k3 0; have o3' := o3; obtain ⟨p3, q3, rfl, _⟩ := o3'.lies))
  refine ⟨key_keeps (UB OO) g1 o1 g3 k3, ⟨key_below (UB OO) g1 o1 g3 zW (by omega) (by omega), fun c t q => ?_⟩, ⟨_, UV k3 0 _, ?_⟩, ?_⟩
  ·exact block_grown (grown_setCell w3 ⟨w.heap.size + 1, 0, none⟩ _) (key_kept (UB OO) q g1 o1 g3 (by omega)) (by simp)
  ·rw [UB HKS]
   have hle : (kp ++ t ++ [0]).length = kp.length + (t.length + 1) := by simp
   rw [hle] at o3
   exact o3.outside (UT w3 (w.heap.size + 1) 0 _) (by omega)
  ·exact (UB BB).trans (key_below (UB OO) g1 o1 g3 zW (by omega) (by omega))
 case done =>
  rintro D xs W hD hS ⟨⟨v, kO, hO⟩, hB⟩ hK
  rw [hS] at hO
  replace hO : Own (w.heap.size + 3) 5 W v (keyN ns) := hO
  have cO := US kO
  have hcv := conv_own hO
  have hO' := hO
  obtain ⟨p3, q3, rfl, _⟩ := hO'.lies
  have BB := UC hB
  have HKK := UC hK
  clear hB hK kz kr
  gi_wp2
  refine ⟨by simp, .inl ⟨_, _, rfl, run_takeDeferred (UB HKK), ?_⟩⟩
  exact ⟨_, results_tmp rfl _ _ _, rfl, (UB BB).trans (belowK_b (w := w) (Nat.le_refl _) W D _ _ (by omega) (UB HKK) rfl rfl)⟩
 case stop =>
  rintro D c pre W _ _ h _
  exact h.elim
theorem nameKey_has {v : Value} {ns : List (List Int)} {w : World} (h : HasL w v ns) (h1 : ns.length ≤ 6) (h2 : ∀ k, k < ns.length → (ns.getD k []).length ≤ 15) :
  Calls Tryz.prog 57 #[.agg #[v]] w fun e w' => e = .returned (.string (strOfNums (keyN ns))) ∧ Below w.heap.size w w' := (callsIn_wide (n := 5)).1 (nameKey_in h h1 h2)
end Go.Proofs.YthobpbnaklnbiaaGreat

namespace Go.Proofs.YthobpbnaklnbiaaGreat
open Go.RowKit
set_option linter.unusedVariables false

set_option maxHeartbeats 800000 in
set_option maxRecDepth 100000 in
theorem implPut16_yes {B : Nat} {v : Value} {l : List Int} (n : Int) {w : World} (h : Own B 5 w v l) (hl : l.length ≤ 1048576) (h0 : 0 ≤ n) (h1 : n ≤ 65535) :
  Calls Tryz.prog 92 #[v, .int .i64 n] w fun e w' => ∃ v', e = .returned v' ∧ Own w.heap.size 5 w' v' (l ++ [n / 256, n % 256]) ∧ Below w.heap.size w w' := by
 go_enter Tryz.func92, Tryz.ntmps92
 go_wp2_with fail
 refine (upTo_yes _ h0 h1).mono ?_
 rintro e w0 ⟨rfl, rfl⟩
 go_wp2_with fail
 refine (copyBytes_own h (by omega)).mono ?_
 rintro e w1 ⟨v1, rfl, o1, b1⟩
 have hsz := b1.size
 go_wp2_with (at_builtin; refine append_bytes rfl _ _ 22 5 rfl Tryz.underlying22 VJ w.heap.size v1 _ l [n / 256, n % 256] rfl rfl (o1.alloc _) (own_put16 w1 0 5 n (Nat.zero_le _)).reads (by simp; omega) (by simp; omega) ?_)
 intro v' w2 hown hgrow
 go_wp2
 go_ret
 exact ⟨v', rfl, hown, (b1.alloc hsz _).grown hgrow (by simp; omega) (fun k hk => (o1.lt k hk).1)⟩

end Go.Proofs.YthobpbnaklnbiaaGreat
