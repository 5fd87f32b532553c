/-
  slices.Values of the library at rows of records, as what a loop ranges over. The program's ascending, at pages, as what a loop ranges over: the records by ascending keys. A slice of bytes made into a text. Contract of the program's nameKey: a name as a text that ascends as names do.
-/
import Derived.Test.YtmlcmkoefelolaaGreatAddG02
import Derived.Test.YtmlcmkoefelolaaGreatAddG16
import Derived.Test.YtmlcmkoefelolaaGreatAddG15
import Derived.RangeFuncNested
import Derived.RangeFuncBound
import Derived.RangeFuncCalls
import Derived.RangeFuncLeaves
import Derived.Shelf.Abstract
import Derived.Shelf.RegionOpen
import Derived.WalkKit
import Derived.OwnWalkIn
import Derived.TacticsInMore
import Derived.LoopNIn
import Derived.LoopIn
import Derived.Test.YtmlcmkoefelolaaGreatAddG12
import Derived.Test.YtmlcmkoefelolaaGreatAddG03
import Derived.Test.YtmlcmkoefelolaaGreatAddG10
import Derived.Test.YtmlcmkoefelolaaGreatAddG01
import Derived.Test.YtmlcmkoefelolaaGreatAddG04
import Derived.RangeFuncBox
namespace Go.Proofs.YtmlcmkoefelolaaGreat
open Go.RowKit Go.Shelf
set_option linter.unusedVariables false

/-- A record, with the slices that have its lists. -/
abbrev RecV (w : World) := { p : (Value × Value × Value × Value) × Rec // HasR w p.1.1 p.1.2.1 p.1.2.2.1 p.1.2.2.2 p.2 ∧ ShortR p.2 }
def encV {w : World} (x : RecV w) : Array Value := #[.agg #[x.1.1.1, .int .i64 x.1.2.type, .int .i64 x.1.2.ttl, .int .i64 x.1.2.addr, x.1.1.2.1, x.1.1.2.2.1, x.1.1.2.2.2]]

set_option maxHeartbeats 4000000 in
set_option maxRecDepth 100000 in
theorem values1_in (n : Nat) (hn : 1 ≤ n) (l Bt n0 : Nat) (w0 : World) (a : Option Addr) (cap : Nat) (rs : List Rec) (hn0 : n0 = w0.heap.size) (hT : HasRs w0 (.slice a rs.length cap) rs) (hsh : ∀ i, i < rs.length → ShortR (rs.getD i recZ)) (hl : rs.length ≤ 1048576)
  (J Jx : List (RecV w0) → World → Prop) (W : World) (hW : Below n0 w0 W) (hJ : AbidesFrom W.heap.size J)
  (hY : ∀ pre x W1, J pre W1 → pre.length < rs.length → YieldAt Fence.wide (n - 1) Tryz.prog l (encV x) W1 fun e W' => (e = .returned (.bool true) ∧ J (pre ++ [x]) W' ∧ Below n0 W1 W') ∨ (e = .returned (.bool false) ∧ Jx (pre ++ [x]) W'))
  (hBt : W.cell? ⟨Bt, 0, none⟩ = some (.slice a rs.length cap)) (h0 : J [] W) :
  CallsIn Fence.wide n Tryz.prog 140 #[.func (.yield l) #[] #[], .pointer (some ⟨Bt, 0, none⟩)] W fun e W' => (∃ v, e = .returned v) ∧
   ((∃ xs, xs.map (·.1.2) = rs ∧ J xs W') ∨ (∃ pre, True ∧ Jx pre W')) := by
 subst hn0
 have HT := hide hT
 have HS := hide hsh
 have HJ := hide hJ
 have HY := hide hY
 have B0 := hide hW
 have H0 := hide h0
 clear hT hsh hJ hY hW h0
 generalize hm : rs.length = m at *
 have HM := hide hm
 clear hm
 refine callsIn_of_wp Tryz.func140 rfl trivial ?_ rfl
 simp only [Tryz.ntmps140, List.size_toArray, List.length_cons, List.length_nil, Nat.reduceAdd, Nat.reduceSub, Array.replicate_succ, Array.replicate_zero, List.push_toArray, List.append_toArray, List.nil_append, List.cons_append]
 gi_wp2
 gi_loopw [7] (fun i wr => ∃ (k : Nat) (pre : List (RecV w0)), k ≤ m ∧ i = .int .i64 k ∧ pre.length = k ∧ pre.map (·.1.2) = rs.take k ∧ J pre wr ∧ Below w0.heap.size w0 wr) (fun i _ => m - (intOf i).toNat)
 case atStart => exact ⟨0, [], Nat.zero_le _, rfl, rfl, by simp, unhide H0, unhide B0⟩
 case round =>
  obtain ⟨k, pre, hk, rfl, hpl, hp, hj, hbl⟩ := hrel
  by_cases hlt : k < m
  ·obtain ⟨b, off, na, nc, ta, tc, xa, xc, ia, ic, rfl, hb1, hc, hR⟩ := (unhide HT).here (k := k) (by rw [unhide HM]; exact hlt)
   have hsk := unhide HS k hlt
   have htk := hide (show rs.take (k + 1) = rs.take k ++ [rs.getD k recZ] by rw [List.take_succ_eq_append_getElem (by rw [unhide HM]; exact hlt)]; simp [show k < rs.length by rw [unhide HM]; exact hlt])
   obtain ⟨c0, c1, c2, c3, c4, c5, c6⟩ := range7 (range_below hc hb1 hbl)
   generalize rs.getD k recZ = r at *
   obtain ⟨x, hx1, hx2⟩ : ∃ x : RecV w0, encV x = #[.agg #[.slice na r.name.length nc, .int .i64 r.type, .int .i64 r.ttl, .int .i64 r.addr, .slice ta r.to.length tc, .slice xa r.text.length xc, .slice ia r.nums.length ic]] ∧ x.1.2 = r := ⟨⟨((.slice na r.name.length nc, .slice ta r.to.length tc, .slice xa r.text.length xc, .slice ia r.nums.length ic), r), hR, hsk⟩, rfl, rfl⟩
   have ba := below_alloc (w := wr) (.cells #[.slice na r.name.length nc, .int .i64 r.type, .int .i64 r.ttl, .int .i64 r.addr, .slice ta r.to.length tc, .slice xa r.text.length xc, .slice ia r.nums.length ic] 52)
   obtain ⟨d0, d1, d2, d3, d4, d5, d6⟩ := cells7 (heap_alloc_new wr (.cells #[.slice na r.name.length nc, .int .i64 r.type, .int .i64 r.ttl, .int .i64 r.addr, .slice ta r.to.length tc, .slice xa r.text.length xc, .slice ia r.nums.length ic] 52))
   obtain ⟨fn, tmps, assign, body, hy, hRd⟩ := unhide HY pre x (wr.alloc (.cells #[.slice na r.name.length nc, .int .i64 r.type, .int .i64 r.ttl, .int .i64 r.addr, .slice ta r.to.length tc, .slice xa r.text.length xc, .slice ia r.nums.length ic] 52)) (unhide HJ pre wr _ none hj (World.grownBy_alloc wr _ none) (fun r e => by cases e)) (by omega)
   rw [hx1] at hy
   have hb2 : Below w0.heap.size w0 (wr.alloc (.cells #[.slice na r.name.length nc, .int .i64 r.type, .int .i64 r.ttl, .int .i64 r.addr, .slice ta r.to.length tc, .slice xa r.text.length xc, .slice ia r.nums.length ic] 52)) := below_next hbl ba
   have HB := hide hb2
   clear hb2 ba hc hR hsk hbl hj
   gi_wp2
   refine hRd.mono ?_
   rintro e W3 (⟨rfl, hJ3, hk3⟩ | ⟨rfl, hJx3⟩)
   ·have hb3 := (unhide HB).trans hk3
    clear hy hRd hk3 HB d0 d1 d2 d3 d4 d5 d6 c0 c1 c2 c3 c4 c5 c6
    gi_wp2
    go_roundw
    case rel => exact ⟨k + 1, pre ++ [x], by omega, by go_num, by simp [hpl], by rw [unhide htk, ← hp]; simp [hx2], hJ3, hb3⟩
    case measure => simp [intOf]; omega
   ·clear hy hRd HB d0 d1 d2 d3 d4 d5 d6 c0 c1 c2 c3 c4 c5 c6
    gi_wp2
    refine bodyPost_ret (results_none rfl _ _ _) rfl ?_
    exact ⟨⟨_, rfl⟩, .inr ⟨pre ++ [x], trivial, hJx3⟩⟩
  ·obtain rfl : k = m := by omega
   have hall : rs.take k = rs := List.take_of_length_le (by rw [unhide HM]; exact Nat.le_refl _)
   rw [hall] at hp
   clear hall
   gi_wp2
   go_end0
   exact ⟨⟨_, rfl⟩, .inl ⟨pre, hp, hj⟩⟩
end Go.Proofs.YtmlcmkoefelolaaGreat

namespace Go.Proofs.YtmlcmkoefelolaaGreat
open Go.RowKit Go.Shelf
set_option linter.unusedVariables false

/-- What a round keeps: what lay below n0, the iterator's own box, and texts' rows. -/
def KpS (n0 Bt : Nat) (W W' : World) : Prop := KpB n0 Bt W W' ∧ ∀ (g : Nat) c, W.heap[g]? = some (Obj.cells c 9) → W'.heap[g]? = some (Obj.cells c 9)
theorem kpS_t {n0 Bt : Nat} {A B C : World} (h : KpS n0 Bt A B) (k : KpS n0 Bt B C) : KpS n0 Bt A C := ⟨kpB_t h.1 k.1, fun g c q => k.2 g c (h.2 g c q)⟩
theorem kpS_b {n0 Bt : Nat} {w : World} (hn : n0 ≤ w.heap.size) (W : World) (l : Nat) (o o' : Obj) (hl : w.heap.size ≤ l) (h : W.heap[l]? = some o) (h1 : o.isCells = false) (h2 : o.isWalk = false) : KpS n0 Bt W (W.putObj l o') :=
 ⟨kpB_b hn W l o o' hl h h1 h2, fun g c q => keptC_of (grownBy_putObj' W l o') (fun r e => by cases e; exact ⟨_, h, h1⟩) _ _ _ q⟩
theorem row_keptS {W W' : World} {B n s : Nat} {v : Value} {xs : List Value} (h : W.ownsRow B 9 s v n xs) (hk : ∀ (g : Nat) c, W.heap[g]? = some (Obj.cells c 9) → W'.heap[g]? = some (Obj.cells c 9)) : W'.ownsRow B 9 s v n xs := by
 obtain ⟨h1, h2⟩ := h
 rcases h2 with h2 | ⟨g, cap, c, h3, h4, h5, h6⟩
 ·exact ⟨h1, .inl h2⟩
 ·exact ⟨h1, .inr ⟨g, cap, c, h3, h4, hk _ _ h5, h6⟩⟩
theorem row_slice {W : World} {B n s : Nat} {e : TypeId} {v : Value} {xs : List Value} (h : W.ownsRow B e s v n xs) : ∃ (a : Option Addr) (c : Nat), v = .slice a n c := by
 obtain ⟨_, h2⟩ := h
 rcases h2 with ⟨rfl, rfl⟩ | ⟨g, cap, c, rfl, _⟩
 ·exact ⟨none, 0, rfl⟩
 ·exact ⟨_, cap, rfl⟩
theorem zero_rrV (w : World) : (zeroValue 52).run Tryz.prog w = .ok (.agg #[.slice none 0 0, .int .i64 0, .int .i64 0, .int .i64 0, .slice none 0 0, .slice none 0 0, .slice none 0 0]) w := by
 have h : (Tryz.prog.info? 52).map (fun i => i.zero) = some (some (.agg #[.slice none 0 0, .int .i64 0, .int .i64 0, .int .i64 0, .slice none 0 0, .slice none 0 0, .slice none 0 0])) := by kernel_rfl
 obtain ⟨i, h1, h2⟩ := Option.map_eq_some_iff.1 h
 simp [zeroValue, typeInfo, h1, h2, go_sem]
theorem sortedOpt_in {w : World} {mb : Option Nat} {P : Pg} (h : OptPage w mb P) (hl : P.length ≤ 1000) :
  CallsIn Fence.wide 5 Tryz.prog 131 #[.func (.func 157) #[] #[.pointer (some ⟨w.heap.size, 0, none⟩)]] (w.alloc (.cells #[.map mb] 115)) fun e w' => ∃ v, e = .returned v ∧
   w'.ownsRow (w.heap.size + 1) 9 1 v (keysP P).length ((keysP P).map encStr) ∧ Below w.heap.size w w' := by
 rcases h with ⟨rfl, rfl⟩ | ⟨p, rfl, ps, hM, hT⟩
 ·refine (sortedNil_in w).mono ?_
  rintro e w' ⟨v, he, hr, hb⟩
  exact ⟨v, he, by simpa [keysP] using hr, hb⟩
 ·have e1 := two_keysP hT
  have e2 : ps.length = P.length := by rw [← keysP_length ps, e1, keysP_length]
  refine (sortedOf_in hM (by omega)).mono ?_
  rintro e w' ⟨v, he, hr, hb⟩
  rw [e1, e2, ← keysP_length P] at hr
  exact ⟨v, he, hr, hb⟩
/-- The record at a key, and its value. -/
theorem at_key {w : World} {mb : Option Nat} {P : Pg} (h : OptPage w mb P) {k : List UInt8} (hk : k ∈ keysP P) : ∃ p ps vn vt vx vi u, mb = some p ∧ MapV w p ps ∧ lookA ⟨k.toArray⟩ ps = some (.agg #[vn, .int .i64 u.type, .int .i64 u.ttl, .int .i64 u.addr, vt, vx, vi]) ∧ lookA ⟨k.toArray⟩ P = some u ∧ HasR w vn vt vx vi u := by
 rcases h with ⟨rfl, rfl⟩ | ⟨p, rfl, ps, hM, hT⟩
 ·simp [keysP] at hk
 ·rw [← two_keysP hT] at hk
  obtain ⟨v, hv⟩ := keysP_mem hk
  obtain ⟨u, h1, vn, vt, vx, vi, rfl, h2⟩ := two_mem hT hM.apart hv
  exact ⟨p, ps, vn, vt, vx, vi, u, rfl, hM, lookA_mem hM.apart hv, h1, h2⟩
theorem key_size {w : World} {p : Nat} {ps : List (ByteArray × Value)} (h : MapV w p ps) {k : ByteArray} {v : Value} (hk : lookA k ps = some v) : k.size ≤ maxLen := by
 obtain ⟨es, clock, _, _, hK, rfl⟩ := h
 obtain ⟨x, hx, he⟩ := List.mem_map.1 (lookA_in hk)
 obtain ⟨s, h1, h2⟩ := hK x hx
 simp only [toPV, h1, keyE, Prod.mk.injEq] at he
 rw [← he.1]
 exact h2

set_option maxHeartbeats 4000000 in
set_option maxRecDepth 100000 in
theorem asc1_in (l Bt n0 : Nat) (w0 : World) (mb : Option Nat) (P : Pg) (hn0 : n0 = w0.heap.size) (hP : OptPage w0 mb P) (hl : P.length ≤ 1000) (hsh : ∀ x ∈ P, ShortR x.2)
  (J Jx : List (RecV w0) → World → Prop) (W : World) (hW : Below n0 w0 W) (hJ : AbidesFrom W.heap.size J)
  (hY : ∀ pre x W1, J pre W1 → pre.length < (keysP P).length → YieldAt Fence.wide 5 Tryz.prog l (encV x) W1 fun e W' => (e = .returned (.bool true) ∧ J (pre ++ [x]) W' ∧ KpS n0 Bt W1 W') ∨ (e = .returned (.bool false) ∧ Jx (pre ++ [x]) W'))
  (hBt : W.heap[Bt]? = some (.cells #[.map mb] 115)) (h0 : J [] W) :
  CallsIn Fence.wide 6 Tryz.prog 130 #[.func (.yield l) #[] #[], .pointer (some ⟨Bt, 0, none⟩)] W fun e W' => (∃ v, e = .returned v) ∧
   ((∃ xs, xs.map (·.1.2) = sortP P ∧ J xs W') ∨ (∃ pre, True ∧ Jx pre W')) := by
 subst hn0
 have hPW : OptPage W mb P := by
  rcases hP with hP | ⟨p, h1, h2⟩
  ·exact .inl hP
  ·exact .inr ⟨p, h1, h2.kept (hW.block p h2.lt) (keptX_below (hW.mono (Nat.le_refl _)))⟩
 have HSO := hide (sortedOpt_in hPW hl)
 have HP := hide hP
 have HS := hide hsh
 have HJ := hide hJ
 have HY := hide hY
 have B0 := hide hW
 have H0 := hide h0
 have KB := hide hBt
 have cB := block_one hBt
 have zB := block_lt hBt
 clear hP hPW hsh hJ hY hW h0 hBt
 refine callsIn_of_wp Tryz.func130 rfl trivial ?_ rfl
 simp only [Tryz.ntmps130, List.size_toArray, List.length_cons, List.length_nil, Nat.reduceAdd, Nat.reduceSub, Array.replicate_succ, Array.replicate_zero, List.push_toArray, List.append_toArray, List.nil_append, List.cons_append]
 gi_wp2_with (first
  | (refine ⟨trivial, ?_⟩; gi_at_call 132; refine (keysOf_in _ _).mono ?_; rintro e w' ⟨rfl, rfl⟩)
  | (refine ⟨trivial, ?_⟩; gi_at_call 131; refine (unhide HSO).mono ?_; rintro e w2 ⟨v2, rfl, hrow, b2⟩; have hrow' := hrow; obtain ⟨g2, c2, rfl⟩ := row_slice hrow'))
 clear cB HSO hrow'
 have hj2 : J [] w2 := unhide HJ [] W w2 none (unhide H0) ⟨b2.os, b2.tape, b2.output, b2.size, fun k hk _ => b2.block k hk⟩ (fun r e => by cases e)
 have kb2 := block_kept b2 (unhide KB)
 have bb2 := (unhide B0).trans (b2.mono (unhide B0).size)
 have ROW := hide hrow
 have hkl : (keysP P).length ≤ 1000 := by rw [keysP_length]; exact hl
 generalize hks : keysP P = ks at *
 have HKS := hide hks
 clear hrow hks H0 KB
 generalize hm : ks.length = m at *
 have HM := hide hm
 clear hm
 gi_loopw [9] (fun i wr => ∃ (k : Nat) (pre : List (RecV w0)), k ≤ m ∧ i = .int .i64 k ∧ pre.length = k ∧ pre.map (·.1.2) = (ks.take k).map (atKey P) ∧ J pre wr ∧ Below w0.heap.size w0 wr ∧ wr.heap[Bt]? = some (.cells #[.map mb] 115) ∧ wr.ownsRow (W.heap.size + 1) 9 1 (.slice g2 m c2) m (ks.map encStr)) (fun i _ => m - (intOf i).toNat)
 case atStart => exact ⟨0, [], Nat.zero_le _, rfl, rfl, by simp, hj2, bb2, kb2, unhide ROW⟩
 case round =>
  obtain ⟨k, pre, hk, rfl, hpl, hp, hj, hbl, hkb, hrw⟩ := hrel
  by_cases hlt : k < m
  ·have hkk : k < ks.length := by rw [unhide HM]; exact hlt
   obtain ⟨p, ps, vn, vt, vx, vi, u, rfl, hMp, hlk, hlu, hR⟩ := at_key (k := ks[k]) (unhide HP) (by rw [unhide HKS]; exact List.getElem_mem hkk)
   have hs := unhide HS _ (lookA_in hlu)
   simp only at hs
   obtain ⟨na, nc, rfl, _⟩ := hR.name.form
   obtain ⟨ta, tc, rfl, _⟩ := hR.to.form
   obtain ⟨xa, xc, rfl, _⟩ := hR.text.form
   obtain ⟨ia, ic, rfl, _⟩ := hR.nums.form
   have htk := hide (show (ks.take (k + 1)).map (atKey P) = (ks.take k).map (atKey P) ++ [u] by rw [List.take_succ_eq_append_getElem hkk, List.map_append, List.map_cons, List.map_nil]; simp only [atKey, hlu, Option.getD_some])
   have hlook := mapV_look (t := 115) Tryz.underlying115 Tryz.underlying9 (zero_rrV wr) (hMp.kept (hbl.block p hMp.lt)) ⟨ks[k].toArray⟩ (key_size hMp hlk)
   rw [hlk] at hlook
   simp only [Option.getD_some] at hlook
   have hgs : ∃ gg, g2 = some ⟨gg, 0, none⟩ := by
    rcases hrw.2 with ⟨h1, h2⟩ | ⟨gg, cap, cc, h1, _⟩
    ·omega
    ·simp only [Value.slice.injEq] at h1
     exact ⟨gg, h1.1⟩
   obtain ⟨gg, rfl⟩ := hgs
   have ck := World.ownsRow.cellAt hrw k (by omega)
   rw [List.getElem?_map, List.getElem?_eq_getElem hkk] at ck
   simp only [Option.map_some] at ck
   have cB := block_one hkb
   obtain ⟨x, hx1, hx2⟩ : ∃ x : RecV w0, encV x = #[.agg #[.slice na u.name.length nc, .int .i64 u.type, .int .i64 u.ttl, .int .i64 u.addr, .slice ta u.to.length tc, .slice xa u.text.length xc, .slice ia u.nums.length ic]] ∧ x.1.2 = u := ⟨⟨((.slice na u.name.length nc, .slice ta u.to.length tc, .slice xa u.text.length xc, .slice ia u.nums.length ic), u), hR, hs⟩, rfl, rfl⟩
   obtain ⟨fn, tmps, assign, body, hy, hRd⟩ := unhide HY pre x wr hj (by omega)
   rw [hx1] at hy
   have HB := hide hbl
   have HRW := hide hrw
   have KBB := hide hkb
   generalize ks[k] = kk at *
   clear hR hs hbl hrw hkb hMp hlk hlu hj
   gi_wp2
   refine hRd.mono ?_
   rintro e W3 (⟨rfl, hJ3, hk3⟩ | ⟨rfl, hJx3⟩)
   ·have hb3 := (unhide HB).trans hk3.1.1
    have hkb3 := hk3.1.2 _ _ (unhide KBB)
    have hrw3 := row_keptS (unhide HRW) hk3.2
    clear hy hRd hk3 HB ck cB hlook KBB HRW
    gi_wp2
    go_roundw
    case rel => exact ⟨k + 1, pre ++ [x], by omega, by go_num, by simp [hpl], by rw [unhide htk, ← hp]; simp [hx2], hJ3, hb3, hkb3, hrw3⟩
    case measure => simp [intOf]; omega
   ·clear hy hRd HB ck cB hlook KBB HRW
    gi_wp2
    refine bodyPost_ret (results_none rfl _ _ _) rfl ?_
    exact ⟨⟨_, rfl⟩, .inr ⟨pre ++ [x], trivial, hJx3⟩⟩
  ·obtain rfl : k = m := by omega
   have hall : ks.take k = ks := List.take_of_length_le (by rw [unhide HM]; exact Nat.le_refl _)
   rw [hall] at hp
   clear hall
   gi_wp2
   go_end0
   exact ⟨⟨_, rfl⟩, .inl ⟨pre, by rw [hp]; unfold sortP; rw [unhide HKS], hj⟩⟩
theorem asc_stops (Bt : Nat) (w0 w : World) (mb : Option Nat) (P : Pg) (hP : OptPage w0 mb P) (hl : P.length ≤ 1000) (hsh : ∀ x ∈ P, ShortR x.2) (hb : Below w0.heap.size w0 w) (hBt : w.heap[Bt]? = some (.cells #[.map mb] 115)) :
  SeqStopsK Fence.wide 6 Tryz.prog 130 #[.pointer (some ⟨Bt, 0, none⟩)] (fun x : RecV w0 => encV x) (KpS w0.heap.size Bt) (fun xs => xs.map (·.1.2) = sortP P) (fun _ => True) (keysP P).length w :=
 fun l J Jx W hW hJ hJx hY h0 => asc1_in l Bt _ w0 mb P rfl hP hl hsh J Jx W (hb.trans (hW.mono hb.size)) hJ hY (block_kept hW hBt) h0
set_option maxHeartbeats 400000 in
set_option maxRecDepth 100000 in
theorem asc_any (mb : Option Nat) (w : World) : Calls Tryz.prog 95 #[.map mb] w fun e w' => e = .returned (.func (.func 130) #[] #[.pointer (some ⟨w.heap.size, 0, none⟩)]) ∧ w' = w.alloc (.cells #[.map mb] 115) := by
 go_enter Tryz.func95, Tryz.ntmps95
 go_wp2
 go_ret
 exact ⟨rfl, rfl⟩
end Go.Proofs.YtmlcmkoefelolaaGreat

namespace Go.Proofs.YtmlcmkoefelolaaGreat
open Go.RowKit

theorem conv_own {B : Nat} {v : Value} {l : List Int} {w : World} (h : Own B 5 w v l) : (convert 44 9 v).run Tryz.prog w = .ok (.string (strOfNums l)) w := by
 rcases h.form with ⟨rfl, rfl⟩ | ⟨g, cap, rfl, _, _, _, _, hc, _⟩
 ·exact run_convert_bytes_nil w 44 5 Tryz.underlying44 Tryz.underlying5 0 0 9 Tryz.underlying9
 ·exact run_convert_bytes_arg w 44 5 Tryz.underlying44 Tryz.underlying5 g 0 l.length cap l rfl (fun i hi => by rw [Nat.zero_add]; exact hc i hi) 9 Tryz.underlying9

theorem conv_has {v : Value} {l : List Int} {w : World} (h : Has w v l) : (convert 44 9 v).run Tryz.prog w = .ok (.string (strOfNums l)) w := by
 rcases h with ⟨rfl, rfl⟩ | ⟨g, off, cap, rfl, _, _, _, hc⟩
 ·exact run_convert_bytes_nil w 44 5 Tryz.underlying44 Tryz.underlying5 0 0 9 Tryz.underlying9
 ·exact run_convert_bytes_arg w 44 5 Tryz.underlying44 Tryz.underlying5 g off l.length cap l rfl hc 9 Tryz.underlying9
end Go.Proofs.YtmlcmkoefelolaaGreat

namespace Go.Proofs.YtmlcmkoefelolaaGreat
open Go.RowKit Go.Shelf
set_option linter.unusedVariables false

/-- What stands between two rounds. -/
def GotK (w w0 : World) (pre : List (LabV w0)) (W : World) : Prop :=
 (∃ v, W.heap[w.heap.size + 1]? = some (.cells #[v] 44) ∧ Own (w.heap.size + 3) 5 W v (keyP (pre.map (·.1.2)))) ∧ Below w.heap.size w W
theorem gotK_own (w w0 : World) (B : Nat) (hB : w.heap.size ≤ B) : OwnFrom B (GotK w w0) := by
 intro s W W' row ⟨⟨v, h1, h2⟩, hb⟩ hg hr
 have hk := keptC_of hg (fun r e => (hr r e).2)
 exact ⟨⟨v, hk _ _ _ h1, row_keptC h2 hk⟩, hb.grown hg hb.size (fun k e => by have := (hr k e).1; omega)⟩

/-- A box ahead of the row stands when the row is appended to. -/
theorem key_kept {B b : Nat} {e : TypeId} {W w1 w3 : World} {v v1 : Value} {l l1 : List Int} {o : Obj} {lit : Obj} (h : Own B e W v l) (k : W.heap[b]? = some o) (g1 : W.grownBy w1 v.ownBlock) (h1 : Own B e w1 v1 l1) (g3 : (w1.alloc lit).grownBy w3 v1.ownBlock) (hb : b < B) : w3.heap[b]? = some o := by
 refine block_grown g3 (block_kept (below_alloc (w := w1) lit) (block_grown g1 k (fun e => by have := (h.lt b e).1; omega))) (fun e => by have := (h1.lt b e).1; omega)
theorem key_keeps {B A b : Nat} {e : TypeId} {W w1 w3 : World} {v v1 u : Value} {l l1 : List Int} {lit : Obj} {c : Array Value} {t : TypeId} (h : Own B e W v l) (g1 : W.grownBy w1 v.ownBlock) (h1 : Own B e w1 v1 l1) (g3 : (w1.alloc lit).grownBy w3 v1.ownBlock) (kb : w3.heap[b]? = some (.cells c t)) : KeepsFrom A W (w3.setCell ⟨b, 0, none⟩ u) := by
 have z := (grown_setCell w3 ⟨b, 0, none⟩ u).size
 have z1 := g1.size
 have z3 := g3.size
 have za := (below_alloc (w := w1) lit).size
 refine ⟨by omega, fun k o hA hk ho => ?_⟩
 have q1 := block_grown g1 hk (row_notC h hk ho)
 have q3 := block_grown g3 (block_kept (below_alloc (w := w1) lit) q1) (row_notC h1 q1 ho)
 refine block_grown (grown_setCell w3 ⟨b, 0, none⟩ u) q3 ?_
 intro e
 simp only [Option.some.injEq] at e
 subst e
 rw [kb] at q3
 cases q3
 cases ho
theorem key_below {n B b : Nat} {e : TypeId} {W w1 w3 : World} {v v1 u : Value} {l l1 : List Int} {lit : Obj} (h : Own B e W v l) (g1 : W.grownBy w1 v.ownBlock) (h1 : Own B e w1 v1 l1) (g3 : (w1.alloc lit).grownBy w3 v1.ownBlock) (hn : n ≤ W.heap.size) (hb : n ≤ b) (hB : n ≤ B) : Below n W (w3.setCell ⟨b, 0, none⟩ u) := by
 have z1 := g1.size
 have z3 := g3.size
 have za := (below_alloc (w := w1) lit).size
 have x1 := (Below.refl n W).grown g1 hn (fun k e => by have := (h.lt k e).1; omega)
 have x3 := (x1.alloc (by omega) lit).grown g3 (by omega) (fun k e => by have := (h1.lt k e).1; omega)
 exact x3.grown (grown_setCell w3 ⟨b, 0, none⟩ u) (by omega) (fun k e => by simp at e; omega)

set_option maxHeartbeats 1000000 in
set_option maxRecDepth 100000 in
theorem nameKey_in {v : Value} {ns : List (List Int)} {w : World} (h : HasL w v ns) (h1 : ns.length ≤ 6) (h2 : ∀ k, k < ns.length → (ns.getD k []).length ≤ 15) :
  CallsIn Fence.wide 5 Tryz.prog 96 #[.agg #[v]] w fun e w' => e = .returned (.string (strOfNums (keyN ns))) ∧ Below w.heap.size w w' := by
 obtain ⟨a, cap, rfl, _⟩ := h.form
 obtain ⟨hsz, k0, r0⟩ := box2 w (.cells #[.slice a ns.length cap] 32) #[.slice none 0 0] 44
 have b0 := below2 w (.cells #[.slice a ns.length cap] 32) (.cells #[.slice none 0 0] 44)
 have KR := hide r0
 have c0 := block_one k0
 have HH := hide h
 have zz := block_lt r0
 have zw := hide hsz
 clear hsz k0 r0 h
 refine callsIn_of_wp_marks Tryz.func96 rfl trivial ?_ rfl
 simp only [Tryz.ntmps96, List.size_toArray, List.length_cons, List.length_nil, Nat.reduceAdd, Nat.reduceSub, Array.replicate_succ, Array.replicate_zero, List.push_toArray, List.append_toArray, List.nil_append, List.cons_append]
 gi_wp2_with (refine ⟨trivial, ?_⟩; gi_at_call 133; refine (callsIn_wide.2 (back_any _ _ _ _)).mono ?_; rintro e w' ⟨rfl, rfl⟩)
 have bz := below_alloc (w := (w.alloc (.cells #[.slice a ns.length cap] 32)).alloc (.cells #[.slice none 0 0] 44)) (.cells #[.slice a ns.length cap] 22)
 have kz := heap_alloc_new ((w.alloc (.cells #[.slice a ns.length cap] 32)).alloc (.cells #[.slice none 0 0] 44)) (.cells #[.slice a ns.length cap] 22)
 have kr := block_kept bz (unhide KR)
 rw [unhide zw] at kz
 have hB0 := below_next b0 bz
 have zk := block_lt kz
 clear KR b0 bz c0 zw zz
 generalize hW0 : ((w.alloc (.cells #[.slice a ns.length cap] 32)).alloc (.cells #[.slice none 0 0] 44)).alloc (.cells #[.slice a ns.length cap] 22) = W0 at *
 clear hW0
 refine wpIn_rangeFunc_ownH rfl (by omega) (gf := 158) (lb := #[.pointer (some ⟨w.heap.size + 1 + 1, 0, none⟩)]) rfl trivial (enters_of Tryz.func158 (by kernel_rfl) rfl) (back_stops (w.heap.size + 1 + 1) w W0 a cap ns (unhide HH) (by omega) h2 hB0 kz) (fun h k => kpB_t h k) (kpB_b (w := W0) (Nat.le_trans hB0.size (Nat.le_refl _))) (Below.refl _ _) (fun _ => rfl)
  (GotK w w) (fun _ _ _ => False) (gotK_own w w _ hB0.size) (fun _ _ _ _ _ h _ _ => h)
  ⟨⟨.slice none 0 0, kr, World.ownsRow_nil _ _ _ _⟩, hB0⟩
  (fun x a' W => a' = { tmps := #[.agg #[.slice a ns.length cap], .pointer (some ⟨w.heap.size, 0, none⟩), .string { data := #[] }, .pointer (some ⟨w.heap.size + 1, 0, none⟩), undef, x.1.1.2, .pointer (some ⟨w.heap.size, 0, none⟩), .slice a ns.length cap, .func (.func 158) #[] #[.pointer (some ⟨w.heap.size + 1 + 1, 0, none⟩)], .int .i64 x.1.1.1, x.1.1.2, undef, undef, undef, undef, undef, undef, undef], defers := [] })
  (fun x a' _ W W' row h _ _ => h) ?assign ?body ?done ?stop
 case assign =>
  rintro lr pre x W K hi hK
  have hsem := Oper.semAt_some lr
  have HK := hide hK
  have HI := hide hi
  clear hK hi
  unfold encL
  gi_wp2
  exact unhide HK _ _ (KeepsFrom.refl _ _) ⟨Below.refl _ _, fun _ _ q => q⟩ (unhide HI) rfl
 case body =>
  rintro lr pre x a' W hl ⟨rr, hrr⟩ ⟨⟨v, kO, hO⟩, hB⟩ rfl hlt
  have hsem := Oper.semAt_some lr
  have zz := block_lt hrr
  obtain ⟨kp, hkp⟩ : ∃ kp, kp = keyP (pre.map (·.1.2)) := ⟨_, rfl⟩
  have hKP : kp.length ≤ 1000 := by
   have := keyP_len (ls := pre.map (·.1.2)) (fun l hl => by obtain ⟨y, _, rfl⟩ := List.mem_map.1 hl; exact y.2.2)
   rw [List.length_map] at this
   rw [hkp]
   omega
  have HKS := hide (show keyP ((pre ++ [x]).map (·.1.2)) = kp ++ x.1.2 ++ [0] by rw [List.map_append, hkp]; exact keyP_snoc _ _)
  rw [← hkp] at hO
  have HX := hide (x.2.1.below hB)
  have htl : x.1.2.length ≤ 15 := x.2.2
  generalize pre ++ [x] = px at *
  generalize x.1.1.2 = u at *
  generalize x.1.2 = t at *
  generalize x.1.1.1 = k at *
  have zW := hB.size
  have cO := block_one kO
  have zO := block_lt kO
  have BB := hide hB
  have KO := hide kO
  have OO := hide hO
  have KF := hide (KeepsFrom.refl W0.heap.size W)
  clear hB kO hO hkp
  gi_wp2_with (first
   | (refine append_bytesIn rfl (.tmp 11) (.tmp 12) 44 5 rfl Tryz.underlying44 info_u8 (w.heap.size + 3) v u kp t (by simp [Act.eval]) (by simp [Act.eval]) (unhide OO) (unhide HX).reads (by omega) (by omega) ?_; intro v1 w1 o1 g1)
   | (refine append_bytesIn rfl (.tmp 13) (.tmp 14) 44 5 rfl Tryz.underlying44 info_u8 (w.heap.size + 3) v1 (.slice (some ⟨w1.heap.size, 0, none⟩) 1 1) (kp ++ t) [0] (by simp [Act.eval]) (by simp [Act.eval]) (o1.alloc _) (own_lit w1 0 5 [0] (Nat.zero_le _) (by simp [maxLen])).reads (by simp; omega) (by have := g1.size; simp; omega) ?_; intro v3 w3 o3 g3; have k3 := key_kept (unhide OO) (unhide KO) g1 o1 g3 (by omega); have c3 := block_one k3; have f3 := block_frozen k3 0; have o3' := o3; obtain ⟨p3, q3, rfl, _⟩ := o3'.lies))
  refine ⟨key_keeps (unhide OO) g1 o1 g3 k3, ⟨key_below (unhide OO) g1 o1 g3 zW (by omega) (by omega), fun c t q => ?_⟩, ⟨_, block_setAt k3 0 _, ?_⟩, ?_⟩
  ·exact block_grown (grown_setCell w3 ⟨w.heap.size + 1, 0, none⟩ _) (key_kept (unhide OO) q g1 o1 g3 (by omega)) (by simp)
  ·rw [unhide HKS]
   have hle : (kp ++ t ++ [0]).length = kp.length + (t.length + 1) := by simp
   rw [hle] at o3
   exact o3.outside (outside_set w3 (w.heap.size + 1) 0 _) (by omega)
  ·exact (unhide BB).trans (key_below (unhide OO) g1 o1 g3 zW (by omega) (by omega))
 case done =>
  rintro D xs W hD hS ⟨⟨v, kO, hO⟩, hB⟩ hK
  rw [hS] at hO
  replace hO : Own (w.heap.size + 3) 5 W v (keyN ns) := hO
  have cO := block_one kO
  have hcv := conv_own hO
  have hO' := hO
  obtain ⟨p3, q3, rfl, _⟩ := hO'.lies
  have BB := hide hB
  have HKK := hide hK
  clear hB hK kz kr
  gi_wp2
  refine ⟨by simp, .inl ⟨_, _, rfl, run_takeDeferred (unhide HKK), ?_⟩⟩
  exact ⟨_, results_tmp rfl _ _ _, rfl, (unhide BB).trans (belowK_b (w := w) (Nat.le_refl _) W D _ _ (by omega) (unhide HKK) rfl rfl)⟩
 case stop =>
  rintro D c pre W _ _ h _
  exact h.elim
theorem nameKey_has {v : Value} {ns : List (List Int)} {w : World} (h : HasL w v ns) (h1 : ns.length ≤ 6) (h2 : ∀ k, k < ns.length → (ns.getD k []).length ≤ 15) :
  Calls Tryz.prog 96 #[.agg #[v]] w fun e w' => e = .returned (.string (strOfNums (keyN ns))) ∧ Below w.heap.size w w' := (callsIn_wide (n := 5)).1 (nameKey_in h h1 h2)
end Go.Proofs.YtmlcmkoefelolaaGreat
