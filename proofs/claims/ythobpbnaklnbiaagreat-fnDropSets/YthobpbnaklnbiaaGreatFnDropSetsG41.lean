/-
  The program's ascending, at pages, as what a loop ranges over: the records by ascending keys. Contract of the program's bookOf: the book of a zone's records.
-/
import Derived.Test.YthobpbnaklnbiaaGreatFnDropSetsG40
namespace Go.Proofs.YthobpbnaklnbiaaGreat
open Go.RowKit Go.Shelf
set_option linter.unusedVariables false
set_option maxHeartbeats 4000000
set_option maxRecDepth 100000

def KpS (n0 Bt : Nat) (W W' : World) : Prop := KpB n0 Bt W W' ∧ ∀ (g : Nat) c, W.heap[g]? = some (Obj.cells c 9) → W'.heap[g]? = some (Obj.cells c 9)
theorem Z5 {n0 Bt : Nat} {A B C : World} (h : KpS n0 Bt A B) (k : KpS n0 Bt B C) : KpS n0 Bt A C := ⟨kpB_t h.1 k.1, fun g c q => k.2 g c (h.2 g c q)⟩
theorem Y3 {n0 Bt : Nat} {w : World} (hn : n0 ≤ w.heap.size) (W : World) (l : Nat) (o o' : Obj) (hl : w.heap.size ≤ l) (h : W.heap[l]? = some o) (h1 : o.isCells = false) (h2 : o.isWalk = false) : KpS n0 Bt W (W.putObj l o') :=
 ⟨kpB_b hn W l o o' hl h h1 h2, fun g c q => Da (grownBy_putObj' W l o') (fun r e => by cases e; exact ⟨_, h, h1⟩) _ _ _ q⟩
theorem Qn {W W' : World} {B n s : Nat} {v : Value} {xs : List Value} (h : W.ownsRow B 9 s v n xs) (hk : ∀ (g : Nat) c, W.heap[g]? = some (Obj.cells c 9) → W'.heap[g]? = some (Obj.cells c 9)) : W'.ownsRow B 9 s v n xs := by
 obtain ⟨h1, h2⟩ := h
 rcases h2 with h2 | ⟨g, cap, c, h3, h4, h5, h6⟩
 ·exact ⟨h1, .inl h2⟩
 ·exact ⟨h1, .inr ⟨g, cap, c, h3, h4, hk _ _ h5, h6⟩⟩
theorem Ql {W : World} {B n s : Nat} {e : TypeId} {v : Value} {xs : List Value} (h : W.ownsRow B e s v n xs) : ∃ (a : Option Addr) (c : Nat), v = .slice a n c := by
 obtain ⟨_, h2⟩ := h
 rcases h2 with ⟨rfl, rfl⟩ | ⟨g, cap, c, rfl, _⟩
 ·exact ⟨none, 0, rfl⟩
 ·exact ⟨_, cap, rfl⟩
theorem Kz (w : World) : (zeroValue 39).run Tryz.prog w = .ok (.agg #[.slice none 0 0, .int .i64 0, .int .i64 0, .int .i64 0, .slice none 0 0, .slice none 0 0, .slice none 0 0]) w := by
 have h : (Tryz.prog.info? 39).map (fun i => i.zero) = some (some (.agg #[.slice none 0 0, .int .i64 0, .int .i64 0, .int .i64 0, .slice none 0 0, .slice none 0 0, .slice none 0 0])) := by kernel_rfl
 obtain ⟨i, h1, h2⟩ := Option.map_eq_some_iff.1 h
 simp [zeroValue, typeInfo, h1, h2, go_sem]
theorem Rp {w : World} {mb : Option Nat} {P : Pg} (h : Hb w mb P) (hl : P.length ≤ 1000) :
  CallsIn Fence.wide 5 Tryz.prog 88 #[.func (.func 114) #[] #[.pointer (some ⟨w.heap.size, 0, none⟩)]] (w.alloc (.cells #[.map mb] 79)) fun e w' => ∃ v, e = .returned v ∧
   w'.ownsRow (w.heap.size + 1) 9 1 v (Bv P).length ((Bv P).map encStr) ∧ Below w.heap.size w w' := by
 rcases h with ⟨rfl, rfl⟩ | ⟨p, rfl, ps, hM, hT⟩
 ·refine (Ru w).mono ?_
  rintro e w' ⟨v, he, hr, hb⟩
  exact ⟨v, he, by simpa [Bv] using hr, hb⟩
 ·have e1 := Iz hT
  have e2 : ps.length = P.length := by rw [← Bm ps, e1, Bm]
  refine (Tx hM (by omega)).mono ?_
  rintro e w' ⟨v, he, hr, hb⟩
  rw [e1, e2, ← Bm P] at hr
  exact ⟨v, he, hr, hb⟩
theorem at_key {w : World} {mb : Option Nat} {P : Pg} (h : Hb w mb P) {k : List UInt8} (hk : k ∈ Bv P) : ∃ p ps vn vt vx vi u, mb = some p ∧ MapV w p ps ∧ Aj ⟨k.toArray⟩ ps = some (.agg #[vn, .int .i64 u.type, .int .i64 u.ttl, .int .i64 u.addr, vt, vx, vi]) ∧ Aj ⟨k.toArray⟩ P = some u ∧ HasR w vn vt vx vi u := by
 rcases h with ⟨rfl, rfl⟩ | ⟨p, rfl, ps, hM, hT⟩
 ·simp [Bv] at hk
 ·rw [← Iz hT] at hk
  obtain ⟨v, hv⟩ := La hk
  obtain ⟨u, h1, vn, vt, vx, vi, rfl, h2⟩ := Vz hT hM.apart hv
  exact ⟨p, ps, vn, vt, vx, vi, u, rfl, hM, Bq hM.apart hv, h1, h2⟩
theorem T8 {w : World} {p : Nat} {ps : List (ByteArray × Value)} (h : MapV w p ps) {k : ByteArray} {v : Value} (hk : Aj k ps = some v) : k.size ≤ maxLen := by
 obtain ⟨es, clock, _, _, hK, rfl⟩ := h
 obtain ⟨x, hx, he⟩ := List.mem_map.1 (Ed hk)
 obtain ⟨s, h1, h2⟩ := hK x hx
 simp only [toPV, h1, keyE, Prod.mk.injEq] at he
 rw [← he.1]
 exact h2

theorem asc1_in (l Bt n0 : Nat) (w0 : World) (mb : Option Nat) (P : Pg) (hn0 : n0 = w0.heap.size) (hP : Hb w0 mb P) (hl : P.length ≤ 1000) (hsh : ∀ x ∈ P, D5 x.2)
  (J Jx : List (RecV w0) → World → Prop) (W : World) (hW : Below n0 w0 W) (hJ : AbidesFrom W.heap.size J)
  (hY : ∀ pre x W1, J pre W1 → pre.length < (Bv P).length → YieldAt Fence.wide 5 Tryz.prog l (encV x) W1 fun e W' => (e = .returned (.bool true) ∧ J (pre ++ [x]) W' ∧ KpS n0 Bt W1 W') ∨ (e = .returned (.bool false) ∧ Jx (pre ++ [x]) W'))
  (hBt : W.heap[Bt]? = some (.cells #[.map mb] 79)) (h0 : J [] W) :
  CallsIn Fence.wide 6 Tryz.prog 87 #[.func (.yield l) #[] #[], .pointer (some ⟨Bt, 0, none⟩)] W fun e W' => (∃ v, e = .returned v) ∧
   ((∃ xs, xs.map (·.1.2) = Ez P ∧ J xs W') ∨ (∃ pre, True ∧ Jx pre W')) := by
 subst hn0
 have hPW : Hb W mb P := by
  rcases hP with hP | ⟨p, h1, h2⟩
  ·exact .inl hP
  ·exact .inr ⟨p, h1, h2.kept (hW.block p h2.lt) (C2 (hW.mono (Nat.le_refl _)))⟩
 have HSO := UC (Rp hPW hl)
 have HP := UC hP
 have HS := UC hsh
 have HJ := UC hJ
 have HY := UC hY
 have B0 := UC hW
 have H0 := UC h0
 have KB := UC hBt
 have cB := US hBt
 have zB := VC hBt
 clear hP hPW hsh hJ hY hW h0 hBt
 refine callsIn_of_wp Tryz.func87 rfl trivial ?_ rfl
 simp only [Tryz.ntmps87, List.size_toArray, List.length_cons, List.length_nil, Nat.reduceAdd, Nat.reduceSub, Array.replicate_succ, Array.replicate_zero, List.push_toArray, List.append_toArray, List.nil_append, List.cons_append]
 gi_wp2_with (first
  | (refine ⟨trivial, ?_⟩; gi_at_call 89; refine (Xa _ _).mono ?_; rintro e w' ⟨rfl, rfl⟩)
  | (refine ⟨trivial, ?_⟩; gi_at_call 88; refine (UB HSO).mono ?_; rintro e w2 ⟨v2, rfl, hrow, b2⟩; have hrow' := hrow; obtain ⟨g2, c2, rfl⟩ := Ql hrow'))
 clear cB HSO hrow'
 have hj2 : J [] w2 := UB HJ [] W w2 none (UB H0) ⟨b2.os, b2.tape, b2.output, b2.size, fun k hk _ => b2.block k hk⟩ (fun r e => by cases e)
 have kb2 := UE b2 (UB KB)
 have bb2 := (UB B0).trans (b2.mono (UB B0).size)
 have ROW := UC hrow
 have hkl : (Bv P).length ≤ 1000 := by rw [Bm]; exact hl
 generalize hks : Bv P = ks at *
 have HKS := UC hks
 clear hrow hks H0 KB
 generalize hm : ks.length = m at *
 have HM := UC hm
 clear hm
 gi_loopw [9] (fun i wr => ∃ (k : Nat) (pre : List (RecV w0)), k ≤ m ∧ i = .int .i64 k ∧ pre.length = k ∧ pre.map (·.1.2) = (ks.take k).map (Hn P) ∧ J pre wr ∧ Below w0.heap.size w0 wr ∧ wr.heap[Bt]? = some (.cells #[.map mb] 79) ∧ wr.ownsRow (W.heap.size + 1) 9 1 (.slice g2 m c2) m (ks.map encStr)) (fun i _ => m - (intOf i).toNat)
 case atStart => exact ⟨0, [], Nat.zero_le _, rfl, rfl, by simp, hj2, bb2, kb2, UB ROW⟩
 case round =>
  obtain ⟨k, pre, hk, rfl, hpl, hp, hj, hbl, hkb, hrw⟩ := hrel
  by_cases hlt : k < m
  ·have hkk : k < ks.length := by rw [UB HM]; exact hlt
   obtain ⟨p, ps, vn, vt, vx, vi, u, rfl, hMp, hlk, hlu, hR⟩ := at_key (k := ks[k]) (UB HP) (by rw [UB HKS]; exact List.getElem_mem hkk)
   have hs := UB HS _ (Ed hlu)
   simp only at hs
   obtain ⟨na, nc, rfl, _⟩ := hR.name.form
   obtain ⟨ta, tc, rfl, _⟩ := hR.to.form
   obtain ⟨xa, xc, rfl, _⟩ := hR.text.form
   obtain ⟨ia, ic, rfl, _⟩ := hR.nums.form
   have htk := UC (show (ks.take (k + 1)).map (Hn P) = (ks.take k).map (Hn P) ++ [u] by rw [List.take_succ_eq_append_getElem hkk, List.map_append, List.map_cons, List.map_nil]; simp only [Hn, hlu, Option.getD_some])
   have hlook := Jb (t := 79) Tryz.underlying79 Tryz.underlying9 (Kz wr) (hMp.kept (hbl.block p hMp.lt)) ⟨ks[k].toArray⟩ (T8 hMp hlk)
   rw [hlk] at hlook
   simp only [Option.getD_some] at hlook
   have hgs : ∃ gg, g2 = some ⟨gg, 0, none⟩ := by
    rcases hrw.2 with ⟨h1, h2⟩ | ⟨gg, cap, cc, h1, _⟩
    ·omega
    ·simp only [Value.slice.injEq] at h1
     exact ⟨gg, h1.1⟩
   obtain ⟨gg, rfl⟩ := hgs
   have ck := World.ownsRow.cellAt hrw k (by omega)
   rw [List.getElem?_map, List.getElem?_eq_getElem hkk] at ck
   simp only [Option.map_some] at ck
   have cB := US hkb
   obtain ⟨x, hx1, hx2⟩ : ∃ x : RecV w0, encV x = #[.agg #[.slice na u.name.length nc, .int .i64 u.type, .int .i64 u.ttl, .int .i64 u.addr, .slice ta u.to.length tc, .slice xa u.text.length xc, .slice ia u.nums.length ic]] ∧ x.1.2 = u := ⟨⟨((.slice na u.name.length nc, .slice ta u.to.length tc, .slice xa u.text.length xc, .slice ia u.nums.length ic), u), hR, hs⟩, rfl, rfl⟩
   obtain ⟨fn, tmps, assign, body, hy, hRd⟩ := UB HY pre x wr hj (by omega)
   rw [hx1] at hy
   have HB := UC hbl
   have HRW := UC hrw
   have KBB := UC hkb
   generalize ks[k] = kk at *
   clear hR hs hbl hrw hkb hMp hlk hlu hj
   gi_wp2
   refine hRd.mono ?_
   rintro e W3 (⟨rfl, hJ3, hk3⟩ | ⟨rfl, hJx3⟩)
   ·have hb3 := (UB HB).trans hk3.1.1
    have hkb3 := hk3.1.2 _ _ (UB KBB)
    have hrw3 := Qn (UB HRW) hk3.2
    clear hy hRd hk3 HB ck cB hlook KBB HRW
    gi_wp2
    go_roundw
    case rel => exact ⟨k + 1, pre ++ [x], by omega, by go_num, by simp [hpl], by rw [UB htk, ← hp]; simp [hx2], hJ3, hb3, hkb3, hrw3⟩
    case measure => simp [intOf]; omega
   ·clear hy hRd HB ck cB hlook KBB HRW
    gi_wp2
    refine bodyPost_ret (results_none rfl _ _ _) rfl ?_
    exact ⟨⟨_, rfl⟩, .inr ⟨pre ++ [x], trivial, hJx3⟩⟩
  ·obtain rfl : k = m := by omega
   have hall : ks.take k = ks := List.take_of_length_le (by rw [UB HM]; exact Nat.le_refl _)
   rw [hall] at hp
   clear hall
   gi_wp2
   go_end0
   exact ⟨⟨_, rfl⟩, .inl ⟨pre, by rw [hp]; unfold Ez; rw [UB HKS], hj⟩⟩
theorem Q3 (Bt : Nat) (w0 w : World) (mb : Option Nat) (P : Pg) (hP : Hb w0 mb P) (hl : P.length ≤ 1000) (hsh : ∀ x ∈ P, D5 x.2) (hb : Below w0.heap.size w0 w) (hBt : w.heap[Bt]? = some (.cells #[.map mb] 79)) :
  SeqStopsK Fence.wide 6 Tryz.prog 87 #[.pointer (some ⟨Bt, 0, none⟩)] (fun x : RecV w0 => encV x) (KpS w0.heap.size Bt) (fun xs => xs.map (·.1.2) = Ez P) (fun _ => True) (Bv P).length w :=
 fun l J Jx W hW hJ hJx hY h0 => asc1_in l Bt _ w0 mb P rfl hP hl hsh J Jx W (hb.trans (hW.mono hb.size)) hJ hY (UE hW hBt) h0
theorem Vs (mb : Option Nat) (w : World) : Calls Tryz.prog 56 #[.map mb] w fun e w' => e = .returned (.func (.func 87) #[] #[.pointer (some ⟨w.heap.size, 0, none⟩)]) ∧ w' = w.alloc (.cells #[.map mb] 79) := by
 go_enter Tryz.func56, Tryz.ntmps56
 go_wp2
 go_ret
 exact ⟨rfl, rfl⟩
end Go.Proofs.YthobpbnaklnbiaaGreat

namespace Go.Proofs.YthobpbnaklnbiaaGreat
open Go.RowKit
set_option linter.unusedVariables false

def Ei (rs : List Rec) : Bk := rs.foldl (fun B r => E7 (strOfNums (keyN r.name)) (strOfNums (keyD r)) r B) []
theorem Sl (rs : List Rec) (r : Rec) : Ei (rs ++ [r]) = E7 (strOfNums (keyN r.name)) (strOfNums (keyD r)) r (Ei rs) := by simp [Ei]

set_option maxHeartbeats 2000000 in
set_option maxRecDepth 100000 in
theorem Og {vo vr : Value} {o : List (List Int)} {rs : List Rec} {w : World} (h : HasZ w vo vr o rs) (hok : ∀ i, i < rs.length → rrOk (rs.getD i recZ) = true) (hlen : rs.length ≤ 1000) :
  Calls Tryz.prog 24 #[.agg #[vo, vr]] w fun e w' => e = .returned (.map (some (w.heap.size + 1))) ∧ Ch w.heap.size w' (w.heap.size + 1) (Ei rs) ∧ Below w.heap.size w w' := by
 obtain ⟨oa, oc, rfl, _⟩ := h.name.form
 obtain ⟨ra, rc, rfl, _⟩ := h.recs.form
 have b0 := UI (w := w) (.cells #[.slice oa o.length oc, .slice ra rs.length rc] 28)
 have k0 := heap_alloc_new w (.cells #[.slice oa o.length oc, .slice ra rs.length rc] 28)
 have z0 : (w.alloc (.cells #[.slice oa o.length oc, .slice ra rs.length rc] 28)).heap.size = w.heap.size + 1 := World.size_alloc w _
 have hmk := run_makeMap (P := Tryz.prog) 52 (w.alloc (.cells #[.slice oa o.length oc, .slice ra rs.length rc] 28))
 have b1 := UI (w := w.alloc (.cells #[.slice oa o.length oc, .slice ra rs.length rc] 28)) (.map #[] 0)
 have BM := UC (Uk (n0 := w.heap.size) (w.alloc (.cells #[.slice oa o.length oc, .slice ra rs.length rc] 28)) (by omega))
 obtain ⟨c0, c1⟩ := UM (UE b1 k0)
 have bb := UG b0 b1
 have HT := UC h.recs
 have HOK := UC hok
 clear h hok b0 b1 k0
 generalize hm : rs.length = m at *
 have HM := UC hm
 go_enter Tryz.func24, Tryz.ntmps24
 go_wp2_with fail
 clear c0 c1 hmk hm
 rw [z0] at BM
 clear z0
 generalize (w.alloc (.cells #[.slice oa o.length oc, .slice ra m rc] 28)).alloc (.map #[] 0) = W at *
 go_loopw [10] (fun i wr => ∃ k : Nat, k ≤ m ∧ i = .int .i64 k ∧ Ch w.heap.size wr (w.heap.size + 1) (Ei (rs.take k)) ∧ Below w.heap.size w wr) (fun i _ => m - (intOf i).toNat)
 case atStart => exact ⟨0, Nat.zero_le _, rfl, by simpa [Ei] using UB BM, bb⟩
 case round =>
  obtain ⟨k, hk, rfl, hBk, hbl⟩ := hrel
  by_cases hlt : k < m
  ·obtain ⟨b, off, na, nc, ta, tc, xa, xc, ia, ic, rfl, hb1, hc, hR⟩ := (UB HT).here (k := k) (by rw [UB HM]; exact hlt)
   have hsk := UB HOK k hlt
   have htk := UC (show rs.take (k + 1) = rs.take k ++ [rs.getD k recZ] by rw [List.take_succ_eq_append_getElem (by rw [UB HM]; exact hlt)]; simp [show k < rs.length by rw [UB HM]; exact hlt])
   obtain ⟨c0, c1, c2, c3, c4, c5, c6⟩ := VH (UW hc hb1 hbl)
   generalize rs.getD k recZ = r at *
   have ba := UI (w := wr) (.cells #[.slice na r.name.length nc, .int .i64 r.type, .int .i64 r.ttl, .int .i64 r.addr, .slice ta r.to.length tc, .slice xa r.text.length xc, .slice ia r.nums.length ic] 39)
   obtain ⟨d0, d1, d2, d3, d4, d5, d6⟩ := UJ (heap_alloc_new wr (.cells #[.slice na r.name.length nc, .int .i64 r.type, .int .i64 r.ttl, .int .i64 r.addr, .slice ta r.to.length tc, .slice xa r.text.length xc, .slice ia r.nums.length ic] 39))
   have HP := UC (S2 (hBk.below ba) ((hR.below hbl).below ba) hsk (Nat.le_trans hbl.size ba.size))
   have HB := UC (UG hbl ba)
   clear ba hc hR hsk hbl hBk
   go_wp2_with fail
   refine (UB HP).mono ?_
   rintro e w3 ⟨⟨v3, rfl⟩, hB3, hK3, hb3⟩
   have hb4 := (UB HB).trans hb3
   clear HP HB d0 d1 d2 d3 d4 d5 d6 c0 c1 c2 c3 c4 c5 c6 hb3 hK3
   go_wp2
   go_roundw
   case rel => exact ⟨k + 1, by omega, by go_num, by rw [UB htk, Sl]; exact hB3, hb4⟩
   case measure => simp [intOf]; omega
  ·obtain rfl : k = m := by omega
   have hall : rs.take k = rs := List.take_of_length_le (by rw [UB HM]; exact Nat.le_refl _)
   rw [hall] at hBk
   clear hall
   go_wp2
   go_ret
   exact ⟨rfl, hBk, hbl⟩
end Go.Proofs.YthobpbnaklnbiaaGreat
