/-
  Contracts of the helpers of the laws for rows of records (szRrS, toRrS, eqRrS). Contracts of the helpers of the laws for zones (szZone, toZone, eqZone). Steps of a region that draws its order: an append to a row of the call's own. No program is named here. Plain facts: a row of records that a slice owns, each with lists of its own in a stretch of blocks of its own. No program is named here.
-/
import Derived.Test.YtmlcmkoefelolaaGreatDropG02
import Derived.Test.YtmlcmkoefelolaaGreatDropG04
import Derived.Deep.RegionHeld3
import Derived.Test.YtmlcmkoefelolaaGreatDropG00
import Derived.Deep.RegionLaw
namespace Go.Proofs.YtmlcmkoefelolaaGreat
open Go.RowKit
set_option linter.unusedVariables false

set_option maxHeartbeats 1000000 in
set_option maxRecDepth 100000 in
theorem szRrS_any (a : Option Addr) (cap : Nat) (rs : List Rec) (left : Int) (w : World) (h : LiesRs w a rs) (hm : rs.length ≤ maxLen) (hm2 : ∀ i, i < rs.length → SizeR maxLen (rs.getD i recZ)) (h0 : 0 ≤ left) (h1 : left ≤ 1048576) :
  Calls Tryz.prog 41 #[.slice a rs.length cap, .int .i64 left] w fun e w' => (∃ y : Int, e = .returned (.int .i64 y) ∧ -1 ≤ y ∧ y ≤ left ∧ (0 ≤ y → (rs.length : Int) ≤ left ∧ ∀ i, i < rs.length → SizeR left.toNat (rs.getD i recZ))) ∧ Below w.heap.size w w' := by
 generalize hn : rs.length = m at *
 have HN := hide hn
 clear hn
 have HM := hide hm2
 clear hm2
 unfold maxLen at hm
 by_cases hlen : (m : Int) ≤ left
 ·go_enter Tryz.func41, Tryz.ntmps41
  go_wp2
  go_loopw [1, 5] (fun r i wr => ∃ (k : Nat) (x : Int), k ≤ m ∧ i = .int .i64 k ∧ r = .int .i64 x ∧ 0 ≤ x ∧ x ≤ left ∧ Hid (∀ j, j < k → SizeR left.toNat (rs.getD j recZ)) ∧ Below w.heap.size w wr) (fun _ i _ => m - (intOf i).toNat)
  case atStart => exact ⟨0, left - m, Nat.zero_le _, rfl, rfl, by omega, by omega, hide (fun j hj => absurd hj (Nat.not_lt_zero _)), Below.refl _ _⟩
  case round =>
   obtain ⟨k, x, hk, rfl, rfl, hx0, hx1, hall, hb⟩ := hrel
   by_cases hlt : k < m
   ·obtain ⟨b, off, an, cn, ato, ct, ax, cx, ai, ci, rfl, hbl, hc, hIn⟩ := (h.below hb).here (k := k) (by rw [unhide HN]; exact hlt)
    have hmk := unhide HM k hlt
    have hone := hide (fun (hs : SizeR left.toNat (rs.getD k recZ)) => (show ∀ j, j < k + 1 → SizeR left.toNat (rs.getD j recZ) from fun j hj => by
      by_cases e : j = k
      ·subst e; exact hs
      ·exact unhide hall j (by omega)))
    generalize rs.getD k recZ = rk at *
    obtain ⟨c0, c1, c2, c3, c4, c5, c6⟩ := range7 hc
    have HI := hide hIn
    have HMK := hide hmk
    clear hIn hmk hc
    go_wp2_with fail
    refine (szRr_any an cn ato ct ax cx ai ci rk x _ (unhide HI) (unhide HMK) hx0 (by omega)).mono ?_
    rintro e w1 ⟨⟨y, rfl, hy0, hy1, hy2⟩, b1⟩
    have hb1 := below_next hb b1
    have HY := hide hy2
    clear hy2 c0 c1 c2 c3 c4 c5 c6 b1 hb
    by_cases hle : y < 0
    ·go_wp2
     go_ret
     exact ⟨⟨-1, rfl, by omega, by omega, fun hneg => by omega⟩, hb1⟩
    ·go_wp2
     exact ⟨⟨k + 1, y, by omega, by go_num, rfl, by omega, by omega, hide (unhide hone ((unhide HY (by omega)).mono (by omega))), hb1⟩, by simp [intOf]; omega⟩
   ·obtain rfl : k = m := by omega
    go_wp2
    go_ret
    exact ⟨⟨x, rfl, by omega, hx1, fun _ => by first | exact ⟨hlen, unhide hall⟩ | (have hq := unhide hall; simpa using hq)⟩, hb⟩
 ·go_enter Tryz.func41, Tryz.ntmps41
  go_wp2
  go_ret
  exact ⟨⟨-1, rfl, by omega, by omega, fun hneg => by omega⟩, Below.refl _ _⟩

theorem run_make7 {P : Program} (t e : TypeId) (zs : Array Value) (bytes : Nat) (ht : P.underlying t = some (.slice e)) (hinfo : (P.info? e).map (fun i => (i.zero, i.size, i.bytes)) = some (some (.agg zs), 7, bytes))
  (kl kc : IntKind) (n : Nat) (hbytes : bytes * n ≤ 281474976710656) (h63 : n ≤ 9223372036854775807) (w : World) :
  (Instr.makeSlice t (.int kl (n : Int)) (.int kc (n : Int))).run P w = .ok (.slice (some ⟨w.heap.size, 0, none⟩) n n) (w.alloc (.cells (madeCells zs (n * 7)) e)) := by
 obtain ⟨i, hi, hzz⟩ := Option.map_eq_some_iff.1 hinfo
 simp only [Prod.mk.injEq] at hzz
 obtain ⟨hz, hs, hb⟩ := hzz
 subst hb
 have hb' : (i.bytes : Int) * (n : Int) ≤ 281474976710656 := by
  have h : ((i.bytes * n : Nat) : Int) ≤ 281474976710656 := by omega
  rwa [Int.natCast_mul] at h
 have hr := run_make (P := P) w t e i (.agg zs) ht hi hz kl kc n n (by omega) (Int.le_refl _) hb' (by omega)
 simp only [Int.toNat_natCast, hs] at hr
 exact hr
theorem info_rr : (Tryz.prog.info? 52).map (fun i => (i.zero, i.size, i.bytes)) = some (some (.agg #[.slice none 0 0, .int .i64 0, .int .i64 0, .int .i64 0, .slice none 0 0, .slice none 0 0, .slice none 0 0]), 7, 120) := by kernel_rfl
set_option maxHeartbeats 1000000 in
set_option maxRecDepth 100000 in
theorem eqRrS_has {v v' : Value} {rs : List Rec} {w : World} (h : HasRs w v rs) (h' : HasRs w v' rs) (hl2 : ∀ i, i < rs.length → SizeR 2097152 (rs.getD i recZ)) :
  Calls Tryz.prog 15 #[v, v'] w fun e w' => e = .returned (.bool true) ∧ Below w.heap.size w w' := by
 obtain ⟨a, cap, rfl, hl, hm⟩ := h.form
 obtain ⟨a', cap', rfl, hl', hm'⟩ := h'.form
 unfold maxLen at hm hm'
 have HL := hide hl2
 clear hl2
 generalize hn : rs.length = m at *
 have HN := hide hn
 clear hn
 go_enter Tryz.func15, Tryz.ntmps15
 go_wp2
 go_loopw [5] (fun i wr => ∃ k : Nat, k ≤ m ∧ i = .int .i64 k ∧ Below w.heap.size w wr) (fun i _ => m - (intOf i).toNat)
 case atStart => exact ⟨0, Nat.zero_le _, rfl, Below.refl _ _⟩
 case round =>
  obtain ⟨k, hk, rfl, hb⟩ := hrel
  by_cases hlt : k < m
  ·obtain ⟨b, off, na, nc, ta, tc, xa, xc, ia, ic, rfl, hbl, hc, hu⟩ := (h.below hb).here (k := k) (by rw [unhide HN]; exact hlt)
   obtain ⟨b', off', na', nc', ta', tc', xa', xc', ia', ic', rfl, hbl', hc', hu'⟩ := (h'.below hb).here (k := k) (by rw [unhide HN]; exact hlt)
   have HLK := hide (unhide HL k hlt)
   generalize rs.getD k recZ = rk at *
   have bd := below_drew (w := wr)
   have HU := hide (hu.below bd)
   have HU' := hide (hu'.below bd)
   have hbd := below_next hb bd
   have HC := hide (range_below hc hbl bd)
   have HC' := hide (range_below hc' hbl' bd)
   have hbld : b < wr.drew.heap.size := hbl
   have hbld' : b' < wr.drew.heap.size := hbl'
   clear hu hu' hc hc' hb
   go_wp2_with fail
   go_region_held3 (fun w' => (w'.cell? ⟨b, off + k * 7, none⟩ = some (.slice na rk.name.length nc) ∧ w'.cell? ⟨b, off + k * 7 + 1, none⟩ = some (.int .i64 rk.type) ∧ w'.cell? ⟨b, off + k * 7 + 2, none⟩ = some (.int .i64 rk.ttl) ∧ w'.cell? ⟨b, off + k * 7 + 3, none⟩ = some (.int .i64 rk.addr) ∧ w'.cell? ⟨b, off + k * 7 + 4, none⟩ = some (.slice ta rk.to.length tc) ∧ w'.cell? ⟨b, off + k * 7 + 5, none⟩ = some (.slice xa rk.text.length xc) ∧ w'.cell? ⟨b, off + k * 7 + 6, none⟩ = some (.slice ia rk.nums.length ic)) ∧ (w'.cell? ⟨b', off' + k * 7, none⟩ = some (.slice na' rk.name.length nc') ∧ w'.cell? ⟨b', off' + k * 7 + 1, none⟩ = some (.int .i64 rk.type) ∧ w'.cell? ⟨b', off' + k * 7 + 2, none⟩ = some (.int .i64 rk.ttl) ∧ w'.cell? ⟨b', off' + k * 7 + 3, none⟩ = some (.int .i64 rk.addr) ∧ w'.cell? ⟨b', off' + k * 7 + 4, none⟩ = some (.slice ta' rk.to.length tc') ∧ w'.cell? ⟨b', off' + k * 7 + 5, none⟩ = some (.slice xa' rk.text.length xc') ∧ w'.cell? ⟨b', off' + k * 7 + 6, none⟩ = some (.slice ia' rk.nums.length ic')))
    (first | exact ⟨range7 (unhide HC), range7 (unhide HC')⟩ | exact ⟨range7 (range_below (unhide HC) hbld b2), range7 (range_below (unhide HC') hbld' b2)⟩)
    (first
    | (go_at_call 26; refine (eqRr_has (unhide HU) (unhide HU') (unhide HLK)).mono ?_; rintro e w2 ⟨rfl, b2⟩))
   go_wp2
   exact ⟨⟨k + 1, by omega, by go_num, below_next hbd b2⟩, by simp [intOf]; omega⟩
  ·go_wp2
   go_ret
   exact ⟨rfl, hb⟩
end Go.Proofs.YtmlcmkoefelolaaGreat

namespace Go.Proofs.YtmlcmkoefelolaaGreat
open Go.RowKit
set_option linter.unusedVariables false

/-- A block of two cells. -/
theorem cells2 {w : World} {b : Nat} {c0 c1 : Value} {t : TypeId} (h : w.heap[b]? = some (.cells #[c0, c1] t)) : w.cell? ⟨b, 0, none⟩ = some c0 ∧ w.cell? ⟨b, 1, none⟩ = some c1 := ⟨block_cell h 0, block_cell h 1⟩
theorem frozen2 {w : World} {b : Nat} {c : Array Value} {t : TypeId} (h : w.heap[b]? = some (.cells c t)) : w.frozen? ⟨b, 0, none⟩ = false ∧ w.frozen? ⟨b, 1, none⟩ = false := ⟨block_frozen h 0, block_frozen h 1⟩

/-- A zone that came in. -/
structure InZ (w : World) (ao ar : Option Addr) (o : List (List Int)) (rs : List Rec) : Prop where
 name : LiesL w ao o
 recs : LiesRs w ar rs
theorem InZ.below {w w' : World} {ao ar : Option Addr} {o : List (List Int)} {rs : List Rec} (h : InZ w ao ar o rs) (hb : Below w.heap.size w w') : InZ w' ao ar o rs := ⟨h.name.below hb, h.recs.below hb⟩
structure SizeZ (m : Nat) (o : List (List Int)) (rs : List Rec) : Prop where
 name : o.length ≤ m
 names : ∀ i, i < o.length → (o.getD i []).length ≤ m
 count : rs.length ≤ m
 recs : ∀ i, i < rs.length → SizeR m (rs.getD i recZ)
theorem SizeZ.mono {m m' : Nat} {o : List (List Int)} {rs : List Rec} (h : SizeZ m o rs) (hm : m ≤ m') : SizeZ m' o rs := ⟨Nat.le_trans h.name hm, fun i hi => Nat.le_trans (h.names i hi) hm, Nat.le_trans h.count hm, fun i hi => (h.recs i hi).mono hm⟩
/-- The slices of a zone have its name and its records. -/
structure HasZ (w : World) (vo vr : Value) (o : List (List Int)) (rs : List Rec) : Prop where
 name : HasL w vo o
 recs : HasRs w vr rs
theorem HasZ.below {w w' : World} {vo vr : Value} {o : List (List Int)} {rs : List Rec} (h : HasZ w vo vr o rs) (hb : Below w.heap.size w w') : HasZ w' vo vr o rs := ⟨h.name.below hb, h.recs.below hb⟩

set_option maxHeartbeats 1000000 in
set_option maxRecDepth 100000 in
theorem szZone_any (ao : Option Addr) (co : Nat) (ar : Option Addr) (cr : Nat) (o : List (List Int)) (rs : List Rec) (left : Int) (w : World) (h : InZ w ao ar o rs) (hm : SizeZ maxLen o rs) (h0 : 0 ≤ left) (h1 : left ≤ 1048576) :
  Calls Tryz.prog 9 #[.agg #[.slice ao o.length co, .slice ar rs.length cr], .int .i64 left] w fun e w' => (∃ y : Int, e = .returned (.int .i64 y) ∧ -1 ≤ y ∧ y ≤ left ∧ (0 ≤ y → SizeZ left.toNat o rs)) ∧ Below w.heap.size w w' := by
 have b0 := below_alloc (w := w) (.cells #[.slice ao o.length co, .slice ar rs.length cr] 27)
 have k0 := heap_alloc_new w (.cells #[.slice ao o.length co, .slice ar rs.length cr] 27)
 have I0 := hide (h.below b0)
 have HM := hide hm
 have K0 := hide k0
 clear h hm k0
 go_enter Tryz.func9, Tryz.ntmps9
 go_wp2_with fail
 generalize w.alloc (.cells #[.slice ao o.length co, .slice ar rs.length cr] 27) = W at *
 refine (szName_any ao co o left _ (unhide I0).name (unhide HM).name (unhide HM).names h0 h1).mono ?_
 rintro e w1 ⟨⟨y1, rfl, ya1, yb1, yc1⟩, b1⟩
 have bb1 := below_next b0 b1
 by_cases n1 : y1 < 0
 ·clear yc1 b0 b1
  go_wp2
  go_ret
  exact ⟨⟨-1, rfl, by omega, by omega, fun q => by omega⟩, bb1⟩
 have Y1 := hide (yc1 (by omega))
 have K1 := hide (block_kept b1 (unhide K0))
 have I1 := hide ((unhide I0).below b1)
 obtain ⟨d0, d1⟩ := cells2 (unhide K1)
 clear yc1 b0 b1 I0 K0
 go_wp2_with fail
 clear d0 d1
 refine (szRrS_any ar cr rs y1 _ (unhide I1).recs (unhide HM).count (unhide HM).recs (by omega) (by omega)).mono ?_
 rintro e w2 ⟨⟨y2, rfl, ya2, yb2, yc2⟩, b2⟩
 have bb2 := below_next bb1 b2
 by_cases n2 : y2 < 0
 ·clear yc2 b2
  go_wp2
  go_ret
  exact ⟨⟨-1, rfl, by omega, by omega, fun q => by omega⟩, bb2⟩
 have Y2 := hide (yc2 (by omega))
 clear yc2 b2
 go_wp2
 go_ret
 have p1 := unhide Y1
 have p2 := unhide Y2
 exact ⟨⟨y2, rfl, by omega, by omega, fun _ => ⟨by omega, fun i hi => by have := p1.2 i hi; omega, by omega, fun i hi => (p2.2 i hi).mono (by omega)⟩⟩, bb2⟩

set_option maxHeartbeats 1000000 in
set_option maxRecDepth 100000 in
theorem eqZone_has {vo vr uo ur : Value} {o : List (List Int)} {rs : List Rec} {w : World} (h : HasZ w vo vr o rs) (h' : HasZ w uo ur o rs) (hs : SizeZ 2097152 o rs) :
  Calls Tryz.prog 16 #[.agg #[vo, vr], .agg #[uo, ur]] w fun e w' => e = .returned (.bool true) ∧ Below w.heap.size w w' := by
 obtain ⟨oa, oc, rfl, _⟩ := h.name.form
 obtain ⟨ra, rc, rfl, _⟩ := h.recs.form
 obtain ⟨oa', oc', rfl, _⟩ := h'.name.form
 obtain ⟨ra', rc', rfl, _⟩ := h'.recs.form
 have b0 := below2 w (.cells #[.slice oa o.length oc, .slice ra rs.length rc] 34) (.cells #[.slice oa' o.length oc', .slice ra' rs.length rc'] 34)
 obtain ⟨hsz, k0, x0⟩ := box2 w (.cells #[.slice oa o.length oc, .slice ra rs.length rc] 34) #[.slice oa' o.length oc', .slice ra' rs.length rc'] 34
 have H0 := hide (h.below b0)
 have H0' := hide (h'.below b0)
 have HS := hide hs
 have K0 := hide k0
 have X0 := hide x0
 clear h h' hs k0 x0 hsz
 go_enter Tryz.func16, Tryz.ntmps16
 go_wp2_with fail
 generalize (w.alloc (.cells #[.slice oa o.length oc, .slice ra rs.length rc] 34)).alloc (.cells #[.slice oa' o.length oc', .slice ra' rs.length rc'] 34) = W at *
 refine (eqName_has (unhide H0).name (unhide H0').name (unhide HS).names).mono ?_
 rintro e w1 ⟨rfl, b1⟩
 have bb1 := below_next b0 b1
 have H1 := hide ((unhide H0).below b1)
 have H1' := hide ((unhide H0').below b1)
 obtain ⟨d0, d1⟩ := cells2 (block_kept b1 (unhide K0))
 obtain ⟨f0, f1⟩ := cells2 (block_kept b1 (unhide X0))
 clear b0 K0 X0 H0 H0' b1
 go_wp2_with fail
 clear d0 d1 f0 f1
 refine (eqRrS_has (unhide H1).recs (unhide H1').recs (unhide HS).recs).mono ?_
 rintro e w2 ⟨rfl, b2⟩
 go_wp2_with fail
 go_ret
 exact ⟨rfl, below_next bb1 b2⟩
end Go.Proofs.YtmlcmkoefelolaaGreat

namespace Go.Proofs.YtmlcmkoefelolaaGreat
open Go.RowKit

section
variable {P : Program} {w : World}

theorem run_append_bytes (t ty e : TypeId) (ht : P.underlying t = some (.slice e)) (hinfo : (P.info? e).map (fun i => (i.zero, i.size, i.bytes)) = some (some (.int .u8 0), 1, 1))
  (base : Nat) (v vx : Value) (l m : List Int) (hown : Own base e w v l) (hr : Reads w vx m) (hlen : l.length + m.length ≤ 1099511627776) (hbase : base ≤ w.heap.size) :
  ∃ v' w', (Builtin.append_ #[t, t] ty #[v, vx]).run P w = .ok v' w' ∧ Own base e w' v' (l ++ m) ∧ w.grownBy w' v.ownBlock := by
 obtain ⟨i0, hi, hz0, hz1, hz2⟩ := info_parts hinfo
 rcases hr with ⟨rfl, rfl⟩ | ⟨ad, cap, rfl, hc⟩
 ·exact ⟨v, w, run_append_owned_none w base t ty e i0 1 ht hi v l.length (l.map (Value.int .u8)) hown, by simpa using hown, ⟨rfl, rfl, rfl, Nat.le_refl _, fun _ _ _ => rfl⟩⟩
 ·obtain ⟨v', w', h1, h2, h3, _⟩ := run_append_own (P := P) w base t ty e i0 (.int .u8 0) 1 1 ht hi hz0 hz1 hz2 rfl (by decide) v l.length (l.map (Value.int .u8)) hown ad m.length cap (m.map (Value.int .u8)) (by simp) (news_of hc) (one_of m) (by unfold maxLen; omega) (by omega) hbase
  exact ⟨v', w', h1, by simpa [Own] using h2, h3⟩

/-- 'append(s, x...)' of bytes, as a step of a region. -/
theorem step_append_bytes {ops : Array Oper} {o : Oper} {a : Act} {K : Act → World → Prop} {Q : Exit → Act → World → Prop} {E : Prop} (hgd : o.guard = none) (s x : Operand) (t e : TypeId)
  (ho : o.op = .call { callee := .builtin .append, args := #[s, x], argTypes := #[t, t] }) (ht : P.underlying t = some (.slice e))
  (hinfo : (P.info? e).map (fun i => (i.zero, i.size, i.bytes)) = some (some (.int .u8 0), 1, 1))
  (base : Nat) (v vx : Value) (l m : List Int) (hs : a.eval s = v) (hx : a.eval x = vx) (hown : Own base e w v l) (hr : Reads w vx m) (hlen : l.length + m.length ≤ 1099511627776) (hbase : base ≤ w.heap.size)
  (h : ∀ v' w', Own base e w' v' (l ++ m) → w.grownBy w' v.ownBlock → K (a.put o.dst v') w') : if Region.wanted o (yielded ops a.tmps) = true then Oper.wp P o a w K Q else E := by
 have hw : Region.wanted o (yielded ops a.tmps) = true := by simp [Region.wanted, hgd]
 rw [if_pos hw]
 obtain ⟨v', w', hr', h2, h3⟩ := run_append_bytes (P := P) t o.type e ht hinfo base v vx l m hown hr hlen hbase
 unfold Oper.wp execOp
 simp only [ho, resolve, invoke, builtin, Sem.run_bind, Sem.run_pure, Result.andThen_ok, List.map_toArray, List.map_cons, List.map_nil, hs, hx, hr']
 exact h v' w' h2 h3

/-- Some values more behind an own row of values of one cell each. -/
theorem run_append_row (t ty e : TypeId) (ht : P.underlying t = some (.slice e)) (hinfo : (P.info? e).map (fun i => (i.zero, i.size, i.bytes)) = some (some (.slice none 0 0), 1, 24))
  (base : Nat) (v vx : Value) (xs us : List Value) (hown : w.ownsRow base e 1 v xs.length xs)
  (hr : (vx = .slice none 0 0 ∧ us = []) ∨ ∃ ad cap, vx = .slice (some ad) us.length cap ∧ ∀ j y, us[j]? = some y → w.cell? (ad.add j) = some y) (hu : ∀ y ∈ us, y.oneCell' = true)
  (hlen : xs.length + us.length ≤ 1099511627776) (hbase : base ≤ w.heap.size) :
  ∃ v' w', (Builtin.append_ #[t, t] ty #[v, vx]).run P w = .ok v' w' ∧ w'.ownsRow base e 1 v' (xs.length + us.length) (xs ++ us) ∧ w.grownBy w' v.ownBlock := by
 obtain ⟨i0, hi, hz0, hz1, hz2⟩ := info_parts hinfo
 rcases hr with ⟨rfl, rfl⟩ | ⟨ad, cap, rfl, hc⟩
 ·exact ⟨v, w, run_append_owned_none w base t ty e i0 1 ht hi v xs.length xs hown, by simpa using hown, ⟨rfl, rfl, rfl, Nat.le_refl _, fun _ _ _ => rfl⟩⟩
 ·obtain ⟨v', w', h1, h2, h3, _⟩ := run_append_own (P := P) w base t ty e i0 (.slice none 0 0) 1 24 ht hi hz0 hz1 hz2 rfl (by decide) v xs.length xs hown ad us.length cap us (by simp) hc hu (by unfold maxLen; omega) (by omega) hbase
  exact ⟨v', w', h1, h2, h3⟩

/-- 'append(s, x...)' of slices, as a step of a region. -/
theorem step_append_row {ops : Array Oper} {o : Oper} {a : Act} {K : Act → World → Prop} {Q : Exit → Act → World → Prop} {E : Prop} (hgd : o.guard = none) (s x : Operand) (t e : TypeId)
  (ho : o.op = .call { callee := .builtin .append, args := #[s, x], argTypes := #[t, t] }) (ht : P.underlying t = some (.slice e))
  (hinfo : (P.info? e).map (fun i => (i.zero, i.size, i.bytes)) = some (some (.slice none 0 0), 1, 24))
  (base : Nat) (v vx : Value) (xs us : List Value) (hs : a.eval s = v) (hx : a.eval x = vx) (hown : w.ownsRow base e 1 v xs.length xs)
  (hr : (vx = .slice none 0 0 ∧ us = []) ∨ ∃ ad cap, vx = .slice (some ad) us.length cap ∧ ∀ j y, us[j]? = some y → w.cell? (ad.add j) = some y) (hu : ∀ y ∈ us, y.oneCell' = true)
  (hlen : xs.length + us.length ≤ 1099511627776) (hbase : base ≤ w.heap.size)
  (h : ∀ v' w', w'.ownsRow base e 1 v' (xs.length + us.length) (xs ++ us) → w.grownBy w' v.ownBlock → K (a.put o.dst v') w') : if Region.wanted o (yielded ops a.tmps) = true then Oper.wp P o a w K Q else E := by
 have hw : Region.wanted o (yielded ops a.tmps) = true := by simp [Region.wanted, hgd]
 rw [if_pos hw]
 obtain ⟨v', w', hr', h2, h3⟩ := run_append_row (P := P) t o.type e ht hinfo base v vx xs us hown hr hu hlen hbase
 unfold Oper.wp execOp
 simp only [ho, resolve, invoke, builtin, Sem.run_bind, Sem.run_pure, Result.andThen_ok, List.map_toArray, List.map_cons, List.map_nil, hs, hx, hr']
 exact h v' w' h2 h3

/-- One value more: what the row of the append's second argument is, in a world that has just been given it. -/
theorem one_more (w : World) (e : TypeId) (u : Value) : (Value.slice (some ⟨w.heap.size, 0, none⟩) 1 1 = .slice none 0 0 ∧ [u] = []) ∨ ∃ ad cap, Value.slice (some ⟨w.heap.size, 0, none⟩) 1 1 = .slice (some ad) [u].length cap ∧ ∀ j y, [u][j]? = some y → (w.alloc (.cells #[u] e)).cell? (ad.add j) = some y := by
 refine .inr ⟨_, 1, rfl, fun j y hj => ?_⟩
 have hj0 : j = 0 := by
  have := (List.getElem?_eq_some_iff.1 hj).1
  simp at this
  exact this
 subst hj0
 have hh : (w.alloc (.cells #[u] e)).heap[w.heap.size]? = some (.cells #[u] e) := by
  show (w.heap.push _)[w.heap.size]? = _
  simp
 rw [Addr.add_lit]
 unfold World.cell?
 simp only [hh]
 simpa using hj
end
end Go.Proofs.YtmlcmkoefelolaaGreat

namespace Go.Proofs.YtmlcmkoefelolaaGreat
open Go.RowKit
set_option linter.unusedVariables false

theorem row_later {B n size : Nat} {e : TypeId} {w w' : World} {v : Value} {xs : List Value} (h : w.ownsRow B e size v n xs) (hb : Below w.heap.size w w') : w'.ownsRow B e size v n xs :=
 World.ownsRow.kept h (grown_of_below hb) (by cases hv : v.ownBlock with | none => exact .inl rfl | some k => exact .inr (by simp))
/-- The slice v owns a row of these records; all blocks lie in B .. E - 1. -/
def RowO (B E : Nat) (er el eb ei : TypeId) (w : World) (v : Value) (rs : List Rec) : Prop :=
 ∃ (xs : List Value) (f g : Nat → Nat), w.ownsRow B er 7 v rs.length xs ∧ (∀ q, v.ownBlock = some q → q < E) ∧
  ∀ i, i < rs.length → B ≤ f i ∧ g i ≤ E ∧ (∀ k, k < i → g k ≤ f i) ∧ (∀ q, v.ownBlock = some q → q < f i ∨ g i ≤ q) ∧
   ∃ vn vt vx vi, (∀ j u, (cellsR vn vt vx vi (rs.getD i recZ))[j]? = some u → xs[i * 7 + j]? = some u) ∧ OwnR (f i) (g i) el eb ei w vn vt vx vi (rs.getD i recZ)

theorem RowO.nil (B E : Nat) (er el eb ei : TypeId) (w : World) : RowO B E er el eb ei w (.slice none 0 0) [] :=
 ⟨[], fun _ => 0, fun _ => 0, World.ownsRow_nil _ _ _ _, (fun q hq => by cases hq), fun i hi => absurd hi (by simp)⟩

theorem cells_lt {vn vt vx vi : Value} {r : Rec} {j : Nat} {u : Value} (h : (cellsR vn vt vx vi r)[j]? = some u) : j < 7 := by
 have := (List.getElem?_eq_some_iff.1 h).1
 simpa [cellsR] using this

theorem RowO.has {B E : Nat} {er el eb ei : TypeId} {w : World} {v : Value} {rs : List Rec} (h : RowO B E er el eb ei w v rs) : HasRs w v rs := by
 obtain ⟨xs, f, g, ho, _, hx⟩ := h
 have ho' := ho
 rcases ho.2 with ⟨rfl, hn⟩ | ⟨b, cap, cur, rfl, hB, hg, hn, hm, hs, ht⟩
 ·exact .inl ⟨rfl, List.eq_nil_of_length_eq_zero hn⟩
 ·refine .inr ⟨b, 0, cap, rfl, block_lt hg, hn, hm, fun i hi => ?_⟩
  obtain ⟨_, _, _, _, vn, vt, vx, vi, q1, q2⟩ := hx i hi
  refine ⟨vn, vt, vx, vi, fun j u hj => ?_, q2.hasR⟩
  have hj7 := cells_lt hj
  rw [Nat.zero_add, World.ownsRow.cellAt ho' (i * 7 + j) (by omega)]
  exact q1 j u hj

theorem RowO.form {B E : Nat} {er el eb ei : TypeId} {w : World} {v : Value} {rs : List Rec} (h : RowO B E er el eb ei w v rs) : ∃ a cap, v = .slice a rs.length cap ∧ rs.length ≤ cap ∧ cap ≤ maxLen := h.has.form

theorem RowO.wide {B E B' E' : Nat} {er el eb ei : TypeId} {w : World} {v : Value} {rs : List Rec} (h : RowO B E er el eb ei w v rs) (hB : B' ≤ B) (hE : E ≤ E') : RowO B' E' er el eb ei w v rs := by
 obtain ⟨xs, f, g, ho, hq, hx⟩ := h
 refine ⟨xs, f, g, ?_, fun q e => Nat.lt_of_lt_of_le (hq q e) hE, fun i hi => ?_⟩
 ·refine ⟨ho.1, ?_⟩
  rcases ho.2 with hn | ⟨b, cap, cur, hv, hb, rest⟩
  ·exact .inl hn
  ·exact .inr ⟨b, cap, cur, hv, Nat.le_trans hB hb, rest⟩
 ·obtain ⟨h1, h2, h3⟩ := hx i hi
  exact ⟨Nat.le_trans hB h1, Nat.le_trans h2 hE, h3⟩

theorem ownsRow_out {C B D n size : Nat} {e : TypeId} {w w' : World} {v : Value} {xs : List Value} (h : w.ownsRow C e size v n xs) (u : Outside B D w w') (hq : ∀ q, v.ownBlock = some q → q < B ∨ D ≤ q) : w'.ownsRow C e size v n xs := by
 have h' := h
 refine ⟨h.1, ?_⟩
 rcases h.2 with hn | ⟨g, cap, cur, hv, hb, hg, rest⟩
 ·exact .inl hn
 ·refine .inr ⟨g, cap, cur, hv, hb, ?_, rest⟩
  rw [u.block g (block_lt hg) (hq g (by rw [hv]; rfl))]
  exact hg

theorem RowO.outside {B E C D : Nat} {er el eb ei : TypeId} {w w' : World} {v : Value} {rs : List Rec} (h : RowO B E er el eb ei w v rs) (u : Outside C D w w') (hd : E ≤ C ∨ D ≤ B) : RowO B E er el eb ei w' v rs := by
 obtain ⟨xs, f, g, ho, hq, hx⟩ := h
 refine ⟨xs, f, g, ownsRow_out ho u (fun q e => ?_), hq, fun i hi => ?_⟩
 ·have h1 := hq q e
  have h2 := (World.ownsRow.lt ho q e).1
  omega
 ·obtain ⟨h1, h2, h3, h4, vn, vt, vx, vi, q1, q2⟩ := hx i hi
  exact ⟨h1, h2, h3, h4, vn, vt, vx, vi, q1, q2.outside u (by omega)⟩

theorem RowO.below {B E : Nat} {er el eb ei : TypeId} {w w' : World} {v : Value} {rs : List Rec} (h : RowO B E er el eb ei w v rs) (hb : Below w.heap.size w w') : RowO B E er el eb ei w' v rs := by
 obtain ⟨xs, f, g, ho, hq, hx⟩ := h
 refine ⟨xs, f, g, row_later ho hb, hq, fun i hi => ?_⟩
 obtain ⟨h1, h2, h3, h4, vn, vt, vx, vi, q1, q2⟩ := hx i hi
 exact ⟨h1, h2, h3, h4, vn, vt, vx, vi, q1, q2.below hb⟩

theorem OwnR.le {B E : Nat} {el eb ei : TypeId} {w : World} {vn vt vx vi : Value} {r : Rec} (h : OwnR B E el eb ei w vn vt vx vi r) : B ≤ E := by
 obtain ⟨s1, s2, s3, a1, a2, a3, a4, _⟩ := h
 omega

/-- Where the row's own block is written, its records' lists stay. -/
theorem OwnR.grown {B E : Nat} {el eb ei : TypeId} {w w' : World} {vn vt vx vi : Value} {r : Rec} {row : Option Nat} (h : OwnR B E el eb ei w vn vt vx vi r) (hg : w.grownBy w' row) (hr : ∀ q, row = some q → q < B ∨ E ≤ q) : OwnR B E el eb ei w' vn vt vx vi r := by
 cases row with
 | none => exact h.below (below_of_grown hg)
 | some q =>
  refine h.outside (outside_grown (B := q) (E := q + 1) hg (fun k hk => by simp at hk; omega)) ?_
  have := hr q rfl
  omega

/-- One record more. -/
theorem RowO.snoc {B E C D : Nat} {er el eb ei : TypeId} {W w' : World} {v v' : Value} {rs : List Rec} {r : Rec} {vn vt vx vi : Value} (h : RowO B E er el eb ei W v rs) (hE : E ≤ C) (hD : D ≤ W.heap.size)
  (hr : OwnR C D el eb ei W vn vt vx vi r) (hB : B ≤ C) (hg : W.grownBy w' v.ownBlock) (hw : v'.ownBlock = v.ownBlock ∨ v'.ownBlock = some W.heap.size)
  (ho : ∀ xs, W.ownsRow B er 7 v rs.length xs → w'.ownsRow B er 7 v' (rs.length + 1) (xs ++ cellsR vn vt vx vi r)) : RowO B w'.heap.size er el eb ei w' v' (rs ++ [r]) := by
 obtain ⟨xs, f, g, h0, hq, hx⟩ := h
 have ho' := ho xs h0
 have hCD := hr.le
 have hlen : xs.length = rs.length * 7 := h0.1
 have hz := hg.size
 have hvq : ∀ q, v.ownBlock = some q → q < C ∨ D ≤ q := fun q e => by have := hq q e; omega
 refine ⟨xs ++ cellsR vn vt vx vi r, fun i => if i < rs.length then f i else C, fun i => if i < rs.length then g i else D, by rw [List.length_append]; exact ho', fun q e => (World.ownsRow.lt ho' q e).2, fun i hi => ?_⟩
 rw [List.length_append] at hi
 simp only [List.length_cons, List.length_nil] at hi
 by_cases hlt : i < rs.length
 ·obtain ⟨h1, h2, h3, h4, un, ut, ux, ui, q1, q2⟩ := hx i hlt
  simp only [hlt, if_true]
  have e1 : (rs ++ [r]).getD i recZ = rs.getD i recZ := by rw [List.getD_eq_getElem?_getD, List.getElem?_append_left hlt, ← List.getD_eq_getElem?_getD]
  rw [e1]
  refine ⟨h1, by omega, fun k hk => ?_, fun q e => ?_, un, ut, ux, ui, fun j u hj => ?_, q2.grown hg h4⟩
  ·rw [if_pos (by omega)]
   exact h3 k hk
  ·rcases hw with hw | hw
   ·rw [hw] at e
    exact h4 q e
   ·rw [hw] at e
    injection e with e
    omega
  ·have hj7 := cells_lt hj
   rw [List.getElem?_append_left (by omega)]
   exact q1 j u hj
 ·obtain rfl : i = rs.length := by omega
  simp only [Nat.lt_irrefl, if_false]
  have e1 : (rs ++ [r]).getD rs.length recZ = r := by rw [List.getD_eq_getElem?_getD]; simp
  rw [e1]
  refine ⟨hB, by omega, fun k hk => ?_, fun q e => ?_, vn, vt, vx, vi, fun j u hj => ?_, hr.grown hg hvq⟩
  ·rw [if_pos hk]
   have := (hx k hk).2.1
   omega
  ·rcases hw with hw | hw
   ·rw [hw] at e
    exact hvq q e
   ·rw [hw] at e
    injection e with e
    omega
  ·rw [List.getElem?_append_right (by omega), hlen, Nat.add_sub_cancel_left]
   exact hj

section
variable {P : Program} {w : World}
/-- Where an append to a row of records leaves it. -/
theorem where_recs {t ty e : TypeId} (ht : P.underlying t = some (.slice e)) {zs : Array Value} (hinfo : (P.info? e).map (fun i => (i.zero, i.size, i.bytes)) = some (some (.agg zs), 7, 120)) (hzs : zs.size = 7)
  {base : Nat} {v : Value} {n : Nat} {xs : List Value} (hown : w.ownsRow base e 7 v n xs) {ad : Addr} {m cap : Nat} {news : List Value} (hl : news.length = m * 7) (hc : ∀ j u, news[j]? = some u → w.cell? (ad.add j) = some u) (h1 : ∀ u ∈ news, u.oneCell' = true)
  (hm : 0 < m) (hlen : n + m ≤ 1000000) {v' : Value} {w' : World}
  (hrun : (Builtin.append_ #[t, t] ty #[v, .slice (some ad) m cap]).run P w = .ok v' w') : v'.ownBlock = v.ownBlock ∨ v'.ownBlock = some w.heap.size := by
 obtain ⟨i0, hi, hz0, hz1, hz2⟩ := info_parts hinfo
 rcases hown.2 with ⟨rfl, h0⟩ | ⟨g, cp, cur, rfl, hbg, hg, hnc, hcm, hcs, htake⟩
 ·rw [run_append_nil (P := P) w t ty e i0 (.agg zs) ht hi hz0 ad m cap news (by rw [hz1]; exact hl) hc hm (by omega) (by rw [hz2]; omega)] at hrun
  simp only [Result.ok.injEq] at hrun
  right; rw [← hrun.1]; rfl
 ·by_cases hroom : n + m ≤ cp
  ·rw [run_append_room (P := P) w t ty e i0 ht hi g n cp cur hg ad m cap news (by rw [hz1]; exact hl) hc h1 hroom (by rw [hz1, hcs, hl]; omega)] at hrun
   simp only [Result.ok.injEq] at hrun
   left; rw [← hrun.1]; rfl
  ·have holds : ∀ j u, xs[j]? = some u → w.cell? ((⟨g, 0, none⟩ : Addr).add j) = some u := World.ownsRow.cells hown (g := g) rfl
   rw [run_append_grow (P := P) w t ty e i0 (.agg zs) ht hi hz0 ⟨g, 0, none⟩ n cp xs (by rw [hz1]; exact hown.1) holds ad m cap news (by rw [hz1]; exact hl) hc (by omega) (by omega) (growslice_fits (by omega) (by rw [hz2]; omega))] at hrun
   simp only [Result.ok.injEq] at hrun
   right; rw [← hrun.1]; rfl

/-- 'append(s, r)' of one record whose cells lie in block g. -/
theorem run_append_rec {t ty e : TypeId} (ht : P.underlying t = some (.slice e)) {zs : Array Value} (hinfo : (P.info? e).map (fun i => (i.zero, i.size, i.bytes)) = some (some (.agg zs), 7, 120)) (hzs : zs.size = 7)
  {base : Nat} {v : Value} {n : Nat} {xs : List Value} (hown : w.ownsRow base e 7 v n xs) {g : Nat} {cs : List Value} (hg : w.heap[g]? = some (.cells cs.toArray e)) (hcl : cs.length = 7) (h1 : ∀ u ∈ cs, u.oneCell' = true) (hlen : n ≤ 1000) (hbase : base ≤ w.heap.size) :
  ∃ v' w', (Builtin.append_ #[t, t] ty #[v, .slice (some ⟨g, 0, none⟩) 1 1]).run P w = .ok v' w' ∧ w'.ownsRow base e 7 v' (n + 1) (xs ++ cs) ∧ w.grownBy w' v.ownBlock ∧ (v'.ownBlock = v.ownBlock ∨ v'.ownBlock = some w.heap.size) := by
 obtain ⟨i0, hi, hz0, hz1, hz2⟩ := info_parts hinfo
 have hc : ∀ j u, cs[j]? = some u → w.cell? ((⟨g, 0, none⟩ : Addr).add j) = some u := fun j u hj => by
  rw [Addr.add_lit, Nat.zero_add, block_cell hg]
  simpa using hj
 obtain ⟨v', w', h2, h3, h4, _⟩ := run_append_own (P := P) w base t ty e i0 (.agg zs) 7 120 ht hi hz0 hz1 hz2 hzs (by decide) v n xs hown ⟨g, 0, none⟩ 1 1 cs (by rw [hcl]) hc h1 (by unfold maxLen; omega) (by omega) hbase
 exact ⟨v', w', h2, h3, h4, where_recs ht hinfo hzs hown (by rw [hcl]) hc h1 (by decide) (by omega) h2⟩

/-- The same where no order is drawn. -/
theorem append_rec' {ops : Array Oper} {rest : List Oper} {o : Oper} {a : Act} {Q : Exit → Act → World → Prop} (hgd : o.guard = none) (s x : Operand) (t e : TypeId)
  (ho : o.op = .call { callee := .builtin .append, args := #[s, x], argTypes := #[t, t] }) (ht : P.underlying t = some (.slice e)) (zs : Array Value)
  (hinfo : (P.info? e).map (fun i => (i.zero, i.size, i.bytes)) = some (some (.agg zs), 7, 120)) (hzs : zs.size = 7)
  (base : Nat) (v : Value) (n : Nat) (hs : a.eval s = v) (g : Nat) (cs : List Value) (hx : a.eval x = .slice (some ⟨g, 0, none⟩) 1 1) (hown : ∃ xs, w.ownsRow base e 7 v n xs)
  (hg : w.heap[g]? = some (.cells cs.toArray e)) (hcl : cs.length = 7) (h1 : ∀ u ∈ cs, u.oneCell' = true) (hlen : n ≤ 1000) (hbase : base ≤ w.heap.size)
  (h : ∀ v' w', (∀ xs, w.ownsRow base e 7 v n xs → w'.ownsRow base e 7 v' (n + 1) (xs ++ cs)) → w.grownBy w' v.ownBlock → (v'.ownBlock = v.ownBlock ∨ v'.ownBlock = some w.heap.size) → wpList P ops Q rest (a.put o.dst v') w') : wpList P ops Q (o :: rest) a w := by
 refine wpList_plain hgd fun _ hK => ?_
 obtain ⟨xs0, hx0⟩ := hown
 obtain ⟨v', w', hr', h2, h3, h4⟩ := run_append_rec (P := P) (ty := o.type) ht hinfo hzs hx0 hg hcl h1 hlen hbase
 have hall : ∀ xs, w.ownsRow base e 7 v n xs → w'.ownsRow base e 7 v' (n + 1) (xs ++ cs) := fun xs hxs => by
  obtain ⟨v2, w2, hr2, h22, _, _⟩ := run_append_rec (P := P) (ty := o.type) ht hinfo hzs hxs hg hcl h1 hlen hbase
  rw [hr'] at hr2
  simp only [Result.ok.injEq] at hr2
  rw [hr2.1, hr2.2]
  exact h22
 unfold Oper.wp execOp
 simp only [ho, resolve, invoke, builtin, Sem.run_bind, Sem.run_pure, Result.andThen_ok, List.map_toArray, List.map_cons, List.map_nil, hs, hx, hr']
 exact hK _ _ (h v' w' hall h3 h4)
end
end Go.Proofs.YtmlcmkoefelolaaGreat
