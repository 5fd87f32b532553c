/-
  Plain facts: the records that stay, and how many go, of the first k. No program is named here. Contract of the specification's l5drop. Contracts of the specification's l2own: a name of its own with the same labels. Plain facts: how long a drawn name is. No program is named here.
-/
import Derived.Test.YtmlcmkoefelolaaGreatDropG20
import Derived.Test.YtmlcmkoefelolaaGreatDropG34
import Derived.Test.YtmlcmkoefelolaaGreatDropG35
import Derived.Test.YtmlcmkoefelolaaGreatDropG09
import Derived.Test.YtmlcmkoefelolaaGreatDropG03
import Derived.Test.YtmlcmkoefelolaaGreatDropG32
import Derived.Test.YtmlcmkoefelolaaGreatDropG04
import Derived.Test.YtmlcmkoefelolaaGreatDropG05
import Derived.Test.YtmlcmkoefelolaaGreatDropG00
namespace Go.Proofs.YtmlcmkoefelolaaGreat
open Go.RowKit
set_option linter.unusedVariables false

/-- What l5drop takes away. -/
def goneB (n : List (List Int)) (t : Int) (one : Bool) (u x : Rec) : Bool := (cmpN x.name n == 0) && ((t == 255) || (x.type == t)) && (x.type != 6) && (!one || (cmpR x u == 0))
def keepK (p : Rec → Bool) (rs : List Rec) : Nat → List Rec
 | 0 => []
 | k + 1 => if p (rs.getD k recZ) = true then keepK p rs k else keepK p rs k ++ [rs.getD k recZ]
def goneK (p : Rec → Bool) (rs : List Rec) : Nat → Nat
 | 0 => 0
 | k + 1 => if p (rs.getD k recZ) = true then goneK p rs k + 1 else goneK p rs k
theorem goneK_le (p : Rec → Bool) (rs : List Rec) : ∀ k, goneK p rs k ≤ k
 | 0 => Nat.le_refl _
 | k + 1 => by
  have := goneK_le p rs k
  unfold goneK
  split <;> omega
theorem keepK_le (p : Rec → Bool) (rs : List Rec) : ∀ k, (keepK p rs k).length ≤ k
 | 0 => Nat.le_refl _
 | k + 1 => by
  have := keepK_le p rs k
  unfold keepK
  split
  ·omega
  ·rw [List.length_append]
   simp only [List.length_cons, List.length_nil]
   omega
theorem take_getD {rs : List Rec} {k : Nat} (h : k < rs.length) : rs.take (k + 1) = rs.take k ++ [rs.getD k recZ] := by
 rw [List.take_succ_eq_append_getElem h, List.getD_eq_getElem?_getD, List.getElem?_eq_getElem h]
 rfl
theorem keepK_is (p : Rec → Bool) (rs : List Rec) : keepK p rs rs.length = rs.filter (fun x => !p x) := by
 have h : ∀ k, k ≤ rs.length → keepK p rs k = (rs.take k).filter (fun x => !p x) := by
  intro k
  induction k with
  | zero => intro _; simp [keepK]
  | succ k ih =>
   intro hk
   rw [keepK, ih (by omega), take_getD (by omega), List.filter_append]
   by_cases hp : p (rs.getD k recZ) = true
   ·rw [if_pos hp, List.filter_cons_of_neg (by rw [hp]; simp), List.filter_nil, List.append_nil]
   ·rw [if_neg hp, List.filter_cons_of_pos (by simpa using hp), List.filter_nil]
 have := h rs.length (Nat.le_refl _)
 rwa [List.take_length] at this
theorem goneK_is (p : Rec → Bool) (rs : List Rec) : goneK p rs rs.length = (rs.filter p).length := by
 have h : ∀ k, k ≤ rs.length → goneK p rs k = ((rs.take k).filter p).length := by
  intro k
  induction k with
  | zero => intro _; simp [goneK]
  | succ k ih =>
   intro hk
   rw [goneK, ih (by omega), take_getD (by omega), List.filter_append, List.length_append]
   by_cases hp : p (rs.getD k recZ) = true
   ·rw [if_pos hp, List.filter_cons_of_pos hp, List.filter_nil]; rfl
   ·rw [if_neg hp, List.filter_cons_of_neg hp, List.filter_nil]; rfl
 have := h rs.length (Nat.le_refl _)
 rwa [List.take_length] at this
theorem RowS.off {B z : Nat} {e : TypeId} {W w w' : World} {v : Value} {rs : List Rec} (h : RowS B e W w v rs) (hg : w.grownBy w' (some z)) (hz : z < B) : RowS B e W w' v rs := by
 obtain ⟨xs, ho, hx⟩ := h
 refine ⟨xs, World.ownsRow.kept ho hg ?_, hx⟩
 cases hv : v.ownBlock with
 | none => exact .inl rfl
 | some k =>
  have := (World.ownsRow.lt ho k hv).1
  exact .inr (by simp only [ne_eq, Option.some.injEq]; omega)
theorem RowS.later {B : Nat} {e : TypeId} {W w w' : World} {v : Value} {rs : List Rec} (h : RowS B e W w v rs) (hb : Below w.heap.size w w') : RowS B e W w' v rs := by
 obtain ⟨xs, ho, hx⟩ := h
 exact ⟨xs, World.ownsRow.kept ho (grown_of_below hb) (by cases hv : v.ownBlock with | none => exact .inl rfl | some k => exact .inr (by simp)), hx⟩
theorem RowS.slice {B : Nat} {e : TypeId} {W w : World} {v : Value} {rs : List Rec} (h : RowS B e W w v rs) : ∃ (a : Option Addr) (c : Nat), v = .slice a rs.length c := by
 obtain ⟨xs, ho, _⟩ := h
 rcases ho.2 with ⟨rfl, h2⟩ | ⟨g, cap, c, rfl, _⟩
 ·exact ⟨none, 0, by rw [h2]⟩
 ·exact ⟨_, cap, rfl⟩
end Go.Proofs.YtmlcmkoefelolaaGreat

namespace Go.Proofs.YtmlcmkoefelolaaGreat
open Go.RowKit
set_option linter.unusedVariables false

set_option maxHeartbeats 8000000 in
set_option maxRecDepth 100000 in
theorem l5drop_true {vo vr vq un ut ux ui : Value} {o n : List (List Int)} {rs : List Rec} {u : Rec} {w : World} (t : Int) (h : HasZ w vo vr o rs) (hq : HasL w vq n) (hx : HasR w un ut ux ui u) (h60 : rs.length ≤ 60) (hn : n.length ≤ 1048576) (hok : ∀ k, k < rs.length → rrOk (rs.getD k recZ) = true) (hone : rrOk u = true) :
  Calls Tryz.prog 75 #[.agg #[vo, vr], .agg #[vq], .int .i64 t, .bool true, .agg #[un, .int .i64 u.type, .int .i64 u.ttl, .int .i64 u.addr, ut, ux, ui]] w fun e w' => ∃ v', e = .returned (.tuple #[.agg #[vo, v'], .int .i64 (goneK (goneB n t true u) rs rs.length)]) ∧ HasZ w' vo v' o (keepK (goneB n t true u) rs rs.length) ∧ Below w.heap.size w w' := by
 obtain ⟨oa, oc, rfl, _⟩ := h.name.form
 obtain ⟨ra, rc, rfl, _⟩ := h.recs.form
 obtain ⟨qa, qc, rfl, _⟩ := hq.form
 obtain ⟨una, unc, rfl, _⟩ := hx.name.form
 obtain ⟨uta, utc, rfl, _⟩ := hx.to.form
 obtain ⟨uxa, uxc, rfl, _⟩ := hx.text.form
 obtain ⟨uia, uic, rfl, _⟩ := hx.nums.form
 obtain ⟨hsz, k0, x0⟩ := box2 w (.cells #[.slice oa o.length oc, .slice ra rs.length rc] 34) #[.slice qa n.length qc] 32
 have b0 := below2 w (.cells #[.slice oa o.length oc, .slice ra rs.length rc] 34) (.cells #[.slice qa n.length qc] 32)
 have b1 := below_alloc (w := (w.alloc (.cells #[.slice oa o.length oc, .slice ra rs.length rc] 34)).alloc (.cells #[.slice qa n.length qc] 32)) (.cells #[.slice una u.name.length unc, .int .i64 u.type, .int .i64 u.ttl, .int .i64 u.addr, .slice uta u.to.length utc, .slice uxa u.text.length uxc, .slice uia u.nums.length uic] 52)
 have u0 := heap_alloc_new ((w.alloc (.cells #[.slice oa o.length oc, .slice ra rs.length rc] 34)).alloc (.cells #[.slice qa n.length qc] 32)) (.cells #[.slice una u.name.length unc, .int .i64 u.type, .int .i64 u.ttl, .int .i64 u.addr, .slice uta u.to.length utc, .slice uxa u.text.length uxc, .slice uia u.nums.length uic] 52)
 have hs1 : (((w.alloc (.cells #[.slice oa o.length oc, .slice ra rs.length rc] 34)).alloc (.cells #[.slice qa n.length qc] 32)).alloc (.cells #[.slice una u.name.length unc, .int .i64 u.type, .int .i64 u.ttl, .int .i64 u.addr, .slice uta u.to.length utc, .slice uxa u.text.length uxc, .slice uia u.nums.length uic] 52)).heap.size = w.heap.size + 3 := by rw [World.size_alloc, hsz]
 rw [hsz] at u0
 have b2 := below_alloc (w := ((w.alloc (.cells #[.slice oa o.length oc, .slice ra rs.length rc] 34)).alloc (.cells #[.slice qa n.length qc] 32)).alloc (.cells #[.slice una u.name.length unc, .int .i64 u.type, .int .i64 u.ttl, .int .i64 u.addr, .slice uta u.to.length utc, .slice uxa u.text.length uxc, .slice uia u.nums.length uic] 52)) (.cells #[.slice none 0 0, .slice none 0 0] 34)
 have r0 := heap_alloc_new (((w.alloc (.cells #[.slice oa o.length oc, .slice ra rs.length rc] 34)).alloc (.cells #[.slice qa n.length qc] 32)).alloc (.cells #[.slice una u.name.length unc, .int .i64 u.type, .int .i64 u.ttl, .int .i64 u.addr, .slice uta u.to.length utc, .slice uxa u.text.length uxc, .slice uia u.nums.length uic] 52)) (.cells #[.slice none 0 0, .slice none 0 0] 34)
 have hs2 : ((((w.alloc (.cells #[.slice oa o.length oc, .slice ra rs.length rc] 34)).alloc (.cells #[.slice qa n.length qc] 32)).alloc (.cells #[.slice una u.name.length unc, .int .i64 u.type, .int .i64 u.ttl, .int .i64 u.addr, .slice uta u.to.length utc, .slice uxa u.text.length uxc, .slice uia u.nums.length uic] 52)).alloc (.cells #[.slice none 0 0, .slice none 0 0] 34)).heap.size = w.heap.size + 4 := by rw [World.size_alloc, hs1]
 rw [hs1] at r0
 have b3 := below_alloc (w := (((w.alloc (.cells #[.slice oa o.length oc, .slice ra rs.length rc] 34)).alloc (.cells #[.slice qa n.length qc] 32)).alloc (.cells #[.slice una u.name.length unc, .int .i64 u.type, .int .i64 u.ttl, .int .i64 u.addr, .slice uta u.to.length utc, .slice uxa u.text.length uxc, .slice uia u.nums.length uic] 52)).alloc (.cells #[.slice none 0 0, .slice none 0 0] 34)) (.cells #[.slice oa o.length oc, .slice none 0 0] 34)
 have t0 := heap_alloc_new ((((w.alloc (.cells #[.slice oa o.length oc, .slice ra rs.length rc] 34)).alloc (.cells #[.slice qa n.length qc] 32)).alloc (.cells #[.slice una u.name.length unc, .int .i64 u.type, .int .i64 u.ttl, .int .i64 u.addr, .slice uta u.to.length utc, .slice uxa u.text.length uxc, .slice uia u.nums.length uic] 52)).alloc (.cells #[.slice none 0 0, .slice none 0 0] 34)) (.cells #[.slice oa o.length oc, .slice none 0 0] 34)
 have hs3 : (((((w.alloc (.cells #[.slice oa o.length oc, .slice ra rs.length rc] 34)).alloc (.cells #[.slice qa n.length qc] 32)).alloc (.cells #[.slice una u.name.length unc, .int .i64 u.type, .int .i64 u.ttl, .int .i64 u.addr, .slice uta u.to.length utc, .slice uxa u.text.length uxc, .slice uia u.nums.length uic] 52)).alloc (.cells #[.slice none 0 0, .slice none 0 0] 34)).alloc (.cells #[.slice oa o.length oc, .slice none 0 0] 34)).heap.size = w.heap.size + 5 := by rw [World.size_alloc, hs2]
 rw [hs2] at t0
 have b23 := below_next b2 b3
 have b13 := below_next b1 b23
 have bb := below_next b0 b13
 have KZ := hide (block_kept b13 k0)
 have KQ := hide (block_kept b13 x0)
 have KU := hide (block_kept b23 u0)
 have KR := hide (block_kept b3 r0)
 have KO := hide t0
 have HE := hide h
 have HQ := hide hq
 have HXX := hide hx
 have HOK := hide hok
 have HONE := hide hone
 obtain ⟨z0, z1⟩ := cells2 (block_kept (below_next b1 b2) k0)
 clear h hq hx hok hone k0 x0 u0 r0 t0 b0 b1 b2 b3 b23 b13 hsz hs1 hs2
 generalize hm : rs.length = m at *
 have HN := hide hm
 clear hm
 go_enter Tryz.func75, Tryz.ntmps75
 go_wp2_with fail
 clear z0 z1
 have zW : w.heap.size + 5 ≤ (((((w.alloc (.cells #[.slice oa o.length oc, .slice ra m rc] 34)).alloc (.cells #[.slice qa n.length qc] 32)).alloc (.cells #[.slice una u.name.length unc, .int .i64 u.type, .int .i64 u.ttl, .int .i64 u.addr, .slice uta u.to.length utc, .slice uxa u.text.length uxc, .slice uia u.nums.length uic] 52)).alloc (.cells #[.slice none 0 0, .slice none 0 0] 34)).alloc (.cells #[.slice oa o.length oc, .slice none 0 0] 34)).heap.size := Nat.le_of_eq hs3.symm
 clear hs3
 generalize ((((w.alloc (.cells #[.slice oa o.length oc, .slice ra m rc] 34)).alloc (.cells #[.slice qa n.length qc] 32)).alloc (.cells #[.slice una u.name.length unc, .int .i64 u.type, .int .i64 u.ttl, .int .i64 u.addr, .slice uta u.to.length utc, .slice uxa u.text.length uxc, .slice uia u.nums.length uic] 52)).alloc (.cells #[.slice none 0 0, .slice none 0 0] 34)).alloc (.cells #[.slice oa o.length oc, .slice none 0 0] 34) = W at *
 go_loopw [13, 14] (fun cnt i wr => ∃ (k : Nat) (v : Value), k ≤ m ∧ i = .int .i64 k ∧ cnt = .int .i64 (goneK (goneB n t true u) rs k) ∧ wr.heap[w.heap.size + 4]? = some (.cells #[.slice oa o.length oc, v] 34) ∧ RowS (w.heap.size + 5) 52 w wr v (keepK (goneB n t true u) rs k) ∧ Below (w.heap.size + 4) W wr) (fun _ i _ => m - (intOf i).toNat)
 case atStart => exact ⟨0, _, Nat.zero_le _, rfl, rfl, unhide KO, RowS.nil _ _ _ _, Below.refl _ _⟩
 case round =>
  obtain ⟨k, v, hk, rfl, rfl, hout, hrow, hb⟩ := hrel
  have zw := hb.size
  have bw : Below w.heap.size w wr := bb.trans (hb.mono (by omega))
  have kz := (hb.block _ (by omega)).trans (unhide KZ)
  obtain ⟨z0, z1⟩ := cells2 kz
  have hgl := goneK_le (goneB n t true u) rs k
  have hkl := keepK_le (goneB n t true u) rs k
  obtain ⟨va, vc, rfl⟩ := hrow.slice
  by_cases hlt : k < m
  ·obtain ⟨b, off, na, nc, ta, tc, xa, xc, ia, ic, rfl, hbl, hc, hu⟩ := (unhide HE).recs.here (k := k) (by rw [unhide HN]; exact hlt)
   have hrk := unhide HOK k hlt
   generalize hrkk : rs.getD k recZ = rk at *
   have HRK := hide hrkk
   have HU0 := hide hu
   have HU := hide (hu.below bw)
   have HX := hide ((unhide HXX).below bw)
   have HROW := hide hrow
   obtain ⟨c0, c1, c2, c3, c4, c5, c6⟩ := range7 (range_below hc hbl bw)
   have kq := (hb.block _ (by omega)).trans (unhide KQ)
   have KUr := hide ((hb.block _ (by omega)).trans (unhide KU))
   have bx := below_alloc (w := wr) (.cells #[.slice na rk.name.length nc, .int .i64 rk.type, .int .i64 rk.ttl, .int .i64 rk.addr, .slice ta rk.to.length tc, .slice xa rk.text.length xc, .slice ia rk.nums.length ic] 52)
   have KX := hide (heap_alloc_new wr (.cells #[.slice na rk.name.length nc, .int .i64 rk.type, .int .i64 rk.ttl, .int .i64 rk.addr, .slice ta rk.to.length tc, .slice xa rk.text.length xc, .slice ia rk.nums.length ic] 52))
   have q0 := block_one (block_kept bx kq)
   have CL := hide (l2cmp_has (((unhide HU).below bx).name) (((unhide HQ).below bw).below bx) (by have := (rrOk_parts hrk).1; have := (nameOk_parts this).1; omega) hn)
   have hkm : (k : Int) < m := by omega
   clear hc hu hrkk kz kq
   by_cases hz : cmpN rk.name n = 0
   ·have hzb : (cmpN rk.name n == 0) = true := by rw [hz]; rfl
    clear hz
    by_cases h255 : t = 255
    ·subst h255
     have e255 : ((255 : Int) == 255) = true := rfl
     by_cases h6 : rk.type = 6
     ·have h6b : (rk.type != 6) = false := by rw [h6]; rfl
      clear h6
      go_wp2_with fail
      refine (unhide CL).mono ?_
      rintro e w2 ⟨rfl, b2⟩
      clear c0 c1 c2 c3 c4 c5 c6 z0 z1 q0
      obtain ⟨x0, x1, x2, x3, x4, x5, x6⟩ := cells7 (block_kept b2 (unhide KX))
      have q3 := b2
      have hp : goneB n 255 true u rk = false := by unfold goneB; rw [hzb, h6b]; rfl
      have hk1 : keepK (goneB n 255 true u) rs (k + 1) = keepK (goneB n 255 true u) rs k ++ [rk] := by rw [keepK, unhide HRK, hp]; rfl
      have hg1 : goneK (goneB n 255 true u) rs (k + 1) = goneK (goneB n 255 true u) rs k := by rw [goneK, unhide HRK, hp]; rfl
      have HK1 := hide hk1
      have HG1 := hide hg1
      have qq := below_next bx q3
      have kout2 := block_kept qq hout
      have row2 := (unhide HROW).later qq
      obtain ⟨xs, hxo, hxs⟩ := row2
      have hxl : xs.length = (keepK (goneB n 255 true u) rs k).length * 7 := hxo.1
      have by2 := below_alloc (w := w2) (.cells #[.slice na rk.name.length nc, .int .i64 rk.type, .int .i64 rk.ttl, .int .i64 rk.addr, .slice ta rk.to.length tc, .slice xa rk.text.length xc, .slice ia rk.nums.length ic] 52)
      have ky2 := heap_alloc_new w2 (.cells #[.slice na rk.name.length nc, .int .i64 rk.type, .int .i64 rk.ttl, .int .i64 rk.addr, .slice ta rk.to.length tc, .slice xa rk.text.length xc, .slice ia rk.nums.length ic] 52)
      obtain ⟨o0, o1⟩ := cells2 kout2
      have kout3 := block_kept by2 kout2
      have HXO := hide hxo
      have HXS := hide hxs
      have KY := hide ky2
      have BY := hide by2
      have KO3 := hide kout3
      have zq := qq.size
      have hbq : Below (w.heap.size + 4) W w2 := hb.trans (qq.mono (by omega))
      have HBQ := hide hbq
      clear hp hk1 hg1 hxo hxs ky2 by2 kout3 kout2 hbq
      go_wp2_with (at_builtin; refine append_rec rfl _ _ 30 52 rfl Tryz.underlying30 _ info_rr rfl (w.heap.size + 5) _ (keepK (goneB n 255 true u) rs k).length xs rfl (ownsRow_later (unhide HXO) (unhide BY)) w2.heap.size (cellsR (.slice na rk.name.length nc) (.slice ta rk.to.length tc) (.slice xa rk.text.length xc) (.slice ia rk.nums.length ic) rk) rfl (unhide KY) rfl (by simp [cellsR, Value.oneCell']) (by omega) (by have := (unhide BY).size; omega) ?_)
      intro v5 w5 o5 g5
      have hx5 := ownsRow_later (unhide HXO) (unhide BY)
      have kout5 := block_grown g5 (unhide KO3) (row_type hx5 (unhide KO3) (by decide))
      have R5 := RowS.snoc hxl (unhide HXS) o5 (unhide HU0)
      rw [← unhide HK1] at R5
      have g6 := grown_setCell w5 ⟨w.heap.size + 4, 1, none⟩ v5
      have R6 := R5.off g6 (by show w.heap.size + 4 < w.heap.size + 5; omega)
      have hb5 : Below (w.heap.size + 4) W w5 := ((unhide HBQ).trans ((unhide BY).mono (by omega))).grown g5 (by have := (unhide HBQ).size; have := (unhide BY).size; omega) (fun q hq => by have := (World.ownsRow.lt hx5 q hq).1; omega)
      have hb6 : Below (w.heap.size + 4) W (w5.setCell ⟨w.heap.size + 4, 1, none⟩ v5) := hb5.setCell (by show w.heap.size + 4 ≤ w.heap.size + 4; omega) v5
      have kout6 := block_setAt kout5 1 v5
      obtain ⟨va5, vc5, rfl⟩ := R5.slice
      obtain ⟨o0b, o1b⟩ := cells2 kout5
      obtain ⟨f0b, f1b⟩ := frozen2 kout5
      have HR6 := hide R6
      have HB6 := hide hb6
      have KO6 := hide kout6
      clear o5 g5 R5 R6 hb5 hb6 kout5 kout6 g6 hx5 o0 o1 x0 x1 x2 x3 x4 x5 x6
      go_wp2_with fail
      exact ⟨⟨k + 1, _, by omega, by go_num, by rw [unhide HG1], unhide KO6, unhide HR6, unhide HB6⟩, by simp [intOf]; omega⟩
     ·have h6b : (rk.type != 6) = true := by rw [bne_iff_ne]; exact h6
      clear h6
      by_cases hcu : cmpR rk u = 0
      ·have hcub : (cmpR rk u == 0) = true := by rw [hcu]; rfl
       clear hcu
       go_wp2_with fail
       refine (unhide CL).mono ?_
       rintro e w2 ⟨rfl, b2⟩
       clear c0 c1 c2 c3 c4 c5 c6 z0 z1 q0
       obtain ⟨x0, x1, x2, x3, x4, x5, x6⟩ := cells7 (block_kept b2 (unhide KX))
       clear x0 x2 x3 x4 x5 x6
       have CM := hide (l3cmp_has (((unhide HU).below bx).below b2) (((unhide HX).below bx).below b2) hrk (unhide HONE))
       obtain ⟨x0, x1b, x2, x3, x4, x5, x6⟩ := cells7 (block_kept b2 (unhide KX))
       obtain ⟨y0, y1, y2, y3, y4, y5, y6⟩ := cells7 (block_kept b2 (block_kept bx (unhide KUr)))
       go_wp2_with fail
       clear x0 x1b x2 x3 x4 x5 x6 y0 y1 y2 y3 y4 y5 y6
       refine (unhide CM).mono ?_
       rintro e w3 ⟨rfl, b3⟩
       clear x1
       obtain ⟨x0, x1, x2, x3, x4, x5, x6⟩ := cells7 (block_kept b3 (block_kept b2 (unhide KX)))
       have q3 := below_next b2 b3
       have hp : goneB n 255 true u rk = true := by unfold goneB; rw [hzb, h6b, hcub]; rfl
       have hk1 : keepK (goneB n 255 true u) rs (k + 1) = keepK (goneB n 255 true u) rs k := by rw [keepK, unhide HRK, hp]; rfl
       have hg1 : goneK (goneB n 255 true u) rs (k + 1) = goneK (goneB n 255 true u) rs k + 1 := by rw [goneK, unhide HRK, hp]; rfl
       have HK1 := hide hk1
       have HG1 := hide hg1
       have qq := below_next bx q3
       have KO2 := hide (block_kept qq hout)
       have ROW2 := hide ((unhide HROW).later qq)
       have HBQ := hide (hb.trans (qq.mono (by omega)))
       clear hp hk1 hg1 x0 x2 x3 x4 x5 x6
       go_wp2_with fail
       exact ⟨⟨k + 1, _, by omega, by go_num, by rw [unhide HG1]; go_num, unhide KO2, by rw [unhide HK1]; exact unhide ROW2, unhide HBQ⟩, by simp [intOf]; omega⟩
      ·have hcub : (cmpR rk u == 0) = false := by rw [beq_eq_false_iff_ne]; exact hcu
       clear hcu
       go_wp2_with fail
       refine (unhide CL).mono ?_
       rintro e w2 ⟨rfl, b2⟩
       clear c0 c1 c2 c3 c4 c5 c6 z0 z1 q0
       obtain ⟨x0, x1, x2, x3, x4, x5, x6⟩ := cells7 (block_kept b2 (unhide KX))
       clear x0 x2 x3 x4 x5 x6
       have CM := hide (l3cmp_has (((unhide HU).below bx).below b2) (((unhide HX).below bx).below b2) hrk (unhide HONE))
       obtain ⟨x0, x1b, x2, x3, x4, x5, x6⟩ := cells7 (block_kept b2 (unhide KX))
       obtain ⟨y0, y1, y2, y3, y4, y5, y6⟩ := cells7 (block_kept b2 (block_kept bx (unhide KUr)))
       go_wp2_with fail
       clear x0 x1b x2 x3 x4 x5 x6 y0 y1 y2 y3 y4 y5 y6
       refine (unhide CM).mono ?_
       rintro e w3 ⟨rfl, b3⟩
       clear x1
       obtain ⟨x0, x1, x2, x3, x4, x5, x6⟩ := cells7 (block_kept b3 (block_kept b2 (unhide KX)))
       have q3 := below_next b2 b3
       have hp : goneB n 255 true u rk = false := by unfold goneB; rw [hzb, h6b, hcub]; rfl
       have hk1 : keepK (goneB n 255 true u) rs (k + 1) = keepK (goneB n 255 true u) rs k ++ [rk] := by rw [keepK, unhide HRK, hp]; rfl
       have hg1 : goneK (goneB n 255 true u) rs (k + 1) = goneK (goneB n 255 true u) rs k := by rw [goneK, unhide HRK, hp]; rfl
       have HK1 := hide hk1
       have HG1 := hide hg1
       have qq := below_next bx q3
       have kout2 := block_kept qq hout
       have row2 := (unhide HROW).later qq
       obtain ⟨xs, hxo, hxs⟩ := row2
       have hxl : xs.length = (keepK (goneB n 255 true u) rs k).length * 7 := hxo.1
       have by2 := below_alloc (w := w3) (.cells #[.slice na rk.name.length nc, .int .i64 rk.type, .int .i64 rk.ttl, .int .i64 rk.addr, .slice ta rk.to.length tc, .slice xa rk.text.length xc, .slice ia rk.nums.length ic] 52)
       have ky2 := heap_alloc_new w3 (.cells #[.slice na rk.name.length nc, .int .i64 rk.type, .int .i64 rk.ttl, .int .i64 rk.addr, .slice ta rk.to.length tc, .slice xa rk.text.length xc, .slice ia rk.nums.length ic] 52)
       obtain ⟨o0, o1⟩ := cells2 kout2
       have kout3 := block_kept by2 kout2
       have HXO := hide hxo
       have HXS := hide hxs
       have KY := hide ky2
       have BY := hide by2
       have KO3 := hide kout3
       have zq := qq.size
       have hbq : Below (w.heap.size + 4) W w3 := hb.trans (qq.mono (by omega))
       have HBQ := hide hbq
       clear hp hk1 hg1 hxo hxs ky2 by2 kout3 kout2 hbq
       go_wp2_with (at_builtin; refine append_rec rfl _ _ 30 52 rfl Tryz.underlying30 _ info_rr rfl (w.heap.size + 5) _ (keepK (goneB n 255 true u) rs k).length xs rfl (ownsRow_later (unhide HXO) (unhide BY)) w3.heap.size (cellsR (.slice na rk.name.length nc) (.slice ta rk.to.length tc) (.slice xa rk.text.length xc) (.slice ia rk.nums.length ic) rk) rfl (unhide KY) rfl (by simp [cellsR, Value.oneCell']) (by omega) (by have := (unhide BY).size; omega) ?_)
       intro v5 w5 o5 g5
       have hx5 := ownsRow_later (unhide HXO) (unhide BY)
       have kout5 := block_grown g5 (unhide KO3) (row_type hx5 (unhide KO3) (by decide))
       have R5 := RowS.snoc hxl (unhide HXS) o5 (unhide HU0)
       rw [← unhide HK1] at R5
       have g6 := grown_setCell w5 ⟨w.heap.size + 4, 1, none⟩ v5
       have R6 := R5.off g6 (by show w.heap.size + 4 < w.heap.size + 5; omega)
       have hb5 : Below (w.heap.size + 4) W w5 := ((unhide HBQ).trans ((unhide BY).mono (by omega))).grown g5 (by have := (unhide HBQ).size; have := (unhide BY).size; omega) (fun q hq => by have := (World.ownsRow.lt hx5 q hq).1; omega)
       have hb6 : Below (w.heap.size + 4) W (w5.setCell ⟨w.heap.size + 4, 1, none⟩ v5) := hb5.setCell (by show w.heap.size + 4 ≤ w.heap.size + 4; omega) v5
       have kout6 := block_setAt kout5 1 v5
       obtain ⟨va5, vc5, rfl⟩ := R5.slice
       obtain ⟨o0b, o1b⟩ := cells2 kout5
       obtain ⟨f0b, f1b⟩ := frozen2 kout5
       have HR6 := hide R6
       have HB6 := hide hb6
       have KO6 := hide kout6
       clear o5 g5 R5 R6 hb5 hb6 kout5 kout6 g6 hx5 o0 o1 x0 x1 x2 x3 x4 x5 x6
       go_wp2_with fail
       exact ⟨⟨k + 1, _, by omega, by go_num, by rw [unhide HG1], unhide KO6, unhide HR6, unhide HB6⟩, by simp [intOf]; omega⟩
    ·have e255 : (t == 255) = false := by rw [beq_eq_false_iff_ne]; exact h255
     clear h255
     by_cases hty : rk.type = t
     ·have ety : (rk.type == t) = true := by rw [hty]; simp
      clear hty
      by_cases h6 : rk.type = 6
      ·have h6b : (rk.type != 6) = false := by rw [h6]; rfl
       clear h6
       go_wp2_with fail
       refine (unhide CL).mono ?_
       rintro e w2 ⟨rfl, b2⟩
       clear c0 c1 c2 c3 c4 c5 c6 z0 z1 q0
       obtain ⟨x0, x1, x2, x3, x4, x5, x6⟩ := cells7 (block_kept b2 (unhide KX))
       have q3 := b2
       have hp : goneB n t true u rk = false := by unfold goneB; rw [hzb, e255, ety, h6b]; rfl
       have hk1 : keepK (goneB n t true u) rs (k + 1) = keepK (goneB n t true u) rs k ++ [rk] := by rw [keepK, unhide HRK, hp]; rfl
       have hg1 : goneK (goneB n t true u) rs (k + 1) = goneK (goneB n t true u) rs k := by rw [goneK, unhide HRK, hp]; rfl
       have HK1 := hide hk1
       have HG1 := hide hg1
       have qq := below_next bx q3
       have kout2 := block_kept qq hout
       have row2 := (unhide HROW).later qq
       obtain ⟨xs, hxo, hxs⟩ := row2
       have hxl : xs.length = (keepK (goneB n t true u) rs k).length * 7 := hxo.1
       have by2 := below_alloc (w := w2) (.cells #[.slice na rk.name.length nc, .int .i64 rk.type, .int .i64 rk.ttl, .int .i64 rk.addr, .slice ta rk.to.length tc, .slice xa rk.text.length xc, .slice ia rk.nums.length ic] 52)
       have ky2 := heap_alloc_new w2 (.cells #[.slice na rk.name.length nc, .int .i64 rk.type, .int .i64 rk.ttl, .int .i64 rk.addr, .slice ta rk.to.length tc, .slice xa rk.text.length xc, .slice ia rk.nums.length ic] 52)
       obtain ⟨o0, o1⟩ := cells2 kout2
       have kout3 := block_kept by2 kout2
       have HXO := hide hxo
       have HXS := hide hxs
       have KY := hide ky2
       have BY := hide by2
       have KO3 := hide kout3
       have zq := qq.size
       have hbq : Below (w.heap.size + 4) W w2 := hb.trans (qq.mono (by omega))
       have HBQ := hide hbq
       clear hp hk1 hg1 hxo hxs ky2 by2 kout3 kout2 hbq
       go_wp2_with (at_builtin; refine append_rec rfl _ _ 30 52 rfl Tryz.underlying30 _ info_rr rfl (w.heap.size + 5) _ (keepK (goneB n t true u) rs k).length xs rfl (ownsRow_later (unhide HXO) (unhide BY)) w2.heap.size (cellsR (.slice na rk.name.length nc) (.slice ta rk.to.length tc) (.slice xa rk.text.length xc) (.slice ia rk.nums.length ic) rk) rfl (unhide KY) rfl (by simp [cellsR, Value.oneCell']) (by omega) (by have := (unhide BY).size; omega) ?_)
       intro v5 w5 o5 g5
       have hx5 := ownsRow_later (unhide HXO) (unhide BY)
       have kout5 := block_grown g5 (unhide KO3) (row_type hx5 (unhide KO3) (by decide))
       have R5 := RowS.snoc hxl (unhide HXS) o5 (unhide HU0)
       rw [← unhide HK1] at R5
       have g6 := grown_setCell w5 ⟨w.heap.size + 4, 1, none⟩ v5
       have R6 := R5.off g6 (by show w.heap.size + 4 < w.heap.size + 5; omega)
       have hb5 : Below (w.heap.size + 4) W w5 := ((unhide HBQ).trans ((unhide BY).mono (by omega))).grown g5 (by have := (unhide HBQ).size; have := (unhide BY).size; omega) (fun q hq => by have := (World.ownsRow.lt hx5 q hq).1; omega)
       have hb6 : Below (w.heap.size + 4) W (w5.setCell ⟨w.heap.size + 4, 1, none⟩ v5) := hb5.setCell (by show w.heap.size + 4 ≤ w.heap.size + 4; omega) v5
       have kout6 := block_setAt kout5 1 v5
       obtain ⟨va5, vc5, rfl⟩ := R5.slice
       obtain ⟨o0b, o1b⟩ := cells2 kout5
       obtain ⟨f0b, f1b⟩ := frozen2 kout5
       have HR6 := hide R6
       have HB6 := hide hb6
       have KO6 := hide kout6
       clear o5 g5 R5 R6 hb5 hb6 kout5 kout6 g6 hx5 o0 o1 x0 x1 x2 x3 x4 x5 x6
       go_wp2_with fail
       exact ⟨⟨k + 1, _, by omega, by go_num, by rw [unhide HG1], unhide KO6, unhide HR6, unhide HB6⟩, by simp [intOf]; omega⟩
      ·have h6b : (rk.type != 6) = true := by rw [bne_iff_ne]; exact h6
       clear h6
       by_cases hcu : cmpR rk u = 0
       ·have hcub : (cmpR rk u == 0) = true := by rw [hcu]; rfl
        clear hcu
        go_wp2_with fail
        refine (unhide CL).mono ?_
        rintro e w2 ⟨rfl, b2⟩
        clear c0 c1 c2 c3 c4 c5 c6 z0 z1 q0
        obtain ⟨x0, x1, x2, x3, x4, x5, x6⟩ := cells7 (block_kept b2 (unhide KX))
        clear x0 x2 x3 x4 x5 x6
        have CM := hide (l3cmp_has (((unhide HU).below bx).below b2) (((unhide HX).below bx).below b2) hrk (unhide HONE))
        obtain ⟨x0, x1b, x2, x3, x4, x5, x6⟩ := cells7 (block_kept b2 (unhide KX))
        obtain ⟨y0, y1, y2, y3, y4, y5, y6⟩ := cells7 (block_kept b2 (block_kept bx (unhide KUr)))
        go_wp2_with fail
        clear x0 x1b x2 x3 x4 x5 x6 y0 y1 y2 y3 y4 y5 y6
        refine (unhide CM).mono ?_
        rintro e w3 ⟨rfl, b3⟩
        clear x1
        obtain ⟨x0, x1, x2, x3, x4, x5, x6⟩ := cells7 (block_kept b3 (block_kept b2 (unhide KX)))
        have q3 := below_next b2 b3
        have hp : goneB n t true u rk = true := by unfold goneB; rw [hzb, e255, ety, h6b, hcub]; rfl
        have hk1 : keepK (goneB n t true u) rs (k + 1) = keepK (goneB n t true u) rs k := by rw [keepK, unhide HRK, hp]; rfl
        have hg1 : goneK (goneB n t true u) rs (k + 1) = goneK (goneB n t true u) rs k + 1 := by rw [goneK, unhide HRK, hp]; rfl
        have HK1 := hide hk1
        have HG1 := hide hg1
        have qq := below_next bx q3
        have KO2 := hide (block_kept qq hout)
        have ROW2 := hide ((unhide HROW).later qq)
        have HBQ := hide (hb.trans (qq.mono (by omega)))
        clear hp hk1 hg1 x0 x2 x3 x4 x5 x6
        go_wp2_with fail
        exact ⟨⟨k + 1, _, by omega, by go_num, by rw [unhide HG1]; go_num, unhide KO2, by rw [unhide HK1]; exact unhide ROW2, unhide HBQ⟩, by simp [intOf]; omega⟩
       ·have hcub : (cmpR rk u == 0) = false := by rw [beq_eq_false_iff_ne]; exact hcu
        clear hcu
        go_wp2_with fail
        refine (unhide CL).mono ?_
        rintro e w2 ⟨rfl, b2⟩
        clear c0 c1 c2 c3 c4 c5 c6 z0 z1 q0
        obtain ⟨x0, x1, x2, x3, x4, x5, x6⟩ := cells7 (block_kept b2 (unhide KX))
        clear x0 x2 x3 x4 x5 x6
        have CM := hide (l3cmp_has (((unhide HU).below bx).below b2) (((unhide HX).below bx).below b2) hrk (unhide HONE))
        obtain ⟨x0, x1b, x2, x3, x4, x5, x6⟩ := cells7 (block_kept b2 (unhide KX))
        obtain ⟨y0, y1, y2, y3, y4, y5, y6⟩ := cells7 (block_kept b2 (block_kept bx (unhide KUr)))
        go_wp2_with fail
        clear x0 x1b x2 x3 x4 x5 x6 y0 y1 y2 y3 y4 y5 y6
        refine (unhide CM).mono ?_
        rintro e w3 ⟨rfl, b3⟩
        clear x1
        obtain ⟨x0, x1, x2, x3, x4, x5, x6⟩ := cells7 (block_kept b3 (block_kept b2 (unhide KX)))
        have q3 := below_next b2 b3
        have hp : goneB n t true u rk = false := by unfold goneB; rw [hzb, e255, ety, h6b, hcub]; rfl
        have hk1 : keepK (goneB n t true u) rs (k + 1) = keepK (goneB n t true u) rs k ++ [rk] := by rw [keepK, unhide HRK, hp]; rfl
        have hg1 : goneK (goneB n t true u) rs (k + 1) = goneK (goneB n t true u) rs k := by rw [goneK, unhide HRK, hp]; rfl
        have HK1 := hide hk1
        have HG1 := hide hg1
        have qq := below_next bx q3
        have kout2 := block_kept qq hout
        have row2 := (unhide HROW).later qq
        obtain ⟨xs, hxo, hxs⟩ := row2
        have hxl : xs.length = (keepK (goneB n t true u) rs k).length * 7 := hxo.1
        have by2 := below_alloc (w := w3) (.cells #[.slice na rk.name.length nc, .int .i64 rk.type, .int .i64 rk.ttl, .int .i64 rk.addr, .slice ta rk.to.length tc, .slice xa rk.text.length xc, .slice ia rk.nums.length ic] 52)
        have ky2 := heap_alloc_new w3 (.cells #[.slice na rk.name.length nc, .int .i64 rk.type, .int .i64 rk.ttl, .int .i64 rk.addr, .slice ta rk.to.length tc, .slice xa rk.text.length xc, .slice ia rk.nums.length ic] 52)
        obtain ⟨o0, o1⟩ := cells2 kout2
        have kout3 := block_kept by2 kout2
        have HXO := hide hxo
        have HXS := hide hxs
        have KY := hide ky2
        have BY := hide by2
        have KO3 := hide kout3
        have zq := qq.size
        have hbq : Below (w.heap.size + 4) W w3 := hb.trans (qq.mono (by omega))
        have HBQ := hide hbq
        clear hp hk1 hg1 hxo hxs ky2 by2 kout3 kout2 hbq
        go_wp2_with (at_builtin; refine append_rec rfl _ _ 30 52 rfl Tryz.underlying30 _ info_rr rfl (w.heap.size + 5) _ (keepK (goneB n t true u) rs k).length xs rfl (ownsRow_later (unhide HXO) (unhide BY)) w3.heap.size (cellsR (.slice na rk.name.length nc) (.slice ta rk.to.length tc) (.slice xa rk.text.length xc) (.slice ia rk.nums.length ic) rk) rfl (unhide KY) rfl (by simp [cellsR, Value.oneCell']) (by omega) (by have := (unhide BY).size; omega) ?_)
        intro v5 w5 o5 g5
        have hx5 := ownsRow_later (unhide HXO) (unhide BY)
        have kout5 := block_grown g5 (unhide KO3) (row_type hx5 (unhide KO3) (by decide))
        have R5 := RowS.snoc hxl (unhide HXS) o5 (unhide HU0)
        rw [← unhide HK1] at R5
        have g6 := grown_setCell w5 ⟨w.heap.size + 4, 1, none⟩ v5
        have R6 := R5.off g6 (by show w.heap.size + 4 < w.heap.size + 5; omega)
        have hb5 : Below (w.heap.size + 4) W w5 := ((unhide HBQ).trans ((unhide BY).mono (by omega))).grown g5 (by have := (unhide HBQ).size; have := (unhide BY).size; omega) (fun q hq => by have := (World.ownsRow.lt hx5 q hq).1; omega)
        have hb6 : Below (w.heap.size + 4) W (w5.setCell ⟨w.heap.size + 4, 1, none⟩ v5) := hb5.setCell (by show w.heap.size + 4 ≤ w.heap.size + 4; omega) v5
        have kout6 := block_setAt kout5 1 v5
        obtain ⟨va5, vc5, rfl⟩ := R5.slice
        obtain ⟨o0b, o1b⟩ := cells2 kout5
        obtain ⟨f0b, f1b⟩ := frozen2 kout5
        have HR6 := hide R6
        have HB6 := hide hb6
        have KO6 := hide kout6
        clear o5 g5 R5 R6 hb5 hb6 kout5 kout6 g6 hx5 o0 o1 x0 x1 x2 x3 x4 x5 x6
        go_wp2_with fail
        exact ⟨⟨k + 1, _, by omega, by go_num, by rw [unhide HG1], unhide KO6, unhide HR6, unhide HB6⟩, by simp [intOf]; omega⟩
     ·have ety : (rk.type == t) = false := by rw [beq_eq_false_iff_ne]; exact hty
      clear hty
      go_wp2_with fail
      refine (unhide CL).mono ?_
      rintro e w2 ⟨rfl, b2⟩
      clear c0 c1 c2 c3 c4 c5 c6 z0 z1 q0
      obtain ⟨x0, x1, x2, x3, x4, x5, x6⟩ := cells7 (block_kept b2 (unhide KX))
      have q3 := b2
      have hp : goneB n t true u rk = false := by unfold goneB; rw [hzb, e255, ety]; rfl
      have hk1 : keepK (goneB n t true u) rs (k + 1) = keepK (goneB n t true u) rs k ++ [rk] := by rw [keepK, unhide HRK, hp]; rfl
      have hg1 : goneK (goneB n t true u) rs (k + 1) = goneK (goneB n t true u) rs k := by rw [goneK, unhide HRK, hp]; rfl
      have HK1 := hide hk1
      have HG1 := hide hg1
      have qq := below_next bx q3
      have kout2 := block_kept qq hout
      have row2 := (unhide HROW).later qq
      obtain ⟨xs, hxo, hxs⟩ := row2
      have hxl : xs.length = (keepK (goneB n t true u) rs k).length * 7 := hxo.1
      have by2 := below_alloc (w := w2) (.cells #[.slice na rk.name.length nc, .int .i64 rk.type, .int .i64 rk.ttl, .int .i64 rk.addr, .slice ta rk.to.length tc, .slice xa rk.text.length xc, .slice ia rk.nums.length ic] 52)
      have ky2 := heap_alloc_new w2 (.cells #[.slice na rk.name.length nc, .int .i64 rk.type, .int .i64 rk.ttl, .int .i64 rk.addr, .slice ta rk.to.length tc, .slice xa rk.text.length xc, .slice ia rk.nums.length ic] 52)
      obtain ⟨o0, o1⟩ := cells2 kout2
      have kout3 := block_kept by2 kout2
      have HXO := hide hxo
      have HXS := hide hxs
      have KY := hide ky2
      have BY := hide by2
      have KO3 := hide kout3
      have zq := qq.size
      have hbq : Below (w.heap.size + 4) W w2 := hb.trans (qq.mono (by omega))
      have HBQ := hide hbq
      clear hp hk1 hg1 hxo hxs ky2 by2 kout3 kout2 hbq
      go_wp2_with (at_builtin; refine append_rec rfl _ _ 30 52 rfl Tryz.underlying30 _ info_rr rfl (w.heap.size + 5) _ (keepK (goneB n t true u) rs k).length xs rfl (ownsRow_later (unhide HXO) (unhide BY)) w2.heap.size (cellsR (.slice na rk.name.length nc) (.slice ta rk.to.length tc) (.slice xa rk.text.length xc) (.slice ia rk.nums.length ic) rk) rfl (unhide KY) rfl (by simp [cellsR, Value.oneCell']) (by omega) (by have := (unhide BY).size; omega) ?_)
      intro v5 w5 o5 g5
      have hx5 := ownsRow_later (unhide HXO) (unhide BY)
      have kout5 := block_grown g5 (unhide KO3) (row_type hx5 (unhide KO3) (by decide))
      have R5 := RowS.snoc hxl (unhide HXS) o5 (unhide HU0)
      rw [← unhide HK1] at R5
      have g6 := grown_setCell w5 ⟨w.heap.size + 4, 1, none⟩ v5
      have R6 := R5.off g6 (by show w.heap.size + 4 < w.heap.size + 5; omega)
      have hb5 : Below (w.heap.size + 4) W w5 := ((unhide HBQ).trans ((unhide BY).mono (by omega))).grown g5 (by have := (unhide HBQ).size; have := (unhide BY).size; omega) (fun q hq => by have := (World.ownsRow.lt hx5 q hq).1; omega)
      have hb6 : Below (w.heap.size + 4) W (w5.setCell ⟨w.heap.size + 4, 1, none⟩ v5) := hb5.setCell (by show w.heap.size + 4 ≤ w.heap.size + 4; omega) v5
      have kout6 := block_setAt kout5 1 v5
      obtain ⟨va5, vc5, rfl⟩ := R5.slice
      obtain ⟨o0b, o1b⟩ := cells2 kout5
      obtain ⟨f0b, f1b⟩ := frozen2 kout5
      have HR6 := hide R6
      have HB6 := hide hb6
      have KO6 := hide kout6
      clear o5 g5 R5 R6 hb5 hb6 kout5 kout6 g6 hx5 o0 o1 x0 x1 x2 x3 x4 x5 x6
      go_wp2_with fail
      exact ⟨⟨k + 1, _, by omega, by go_num, by rw [unhide HG1], unhide KO6, unhide HR6, unhide HB6⟩, by simp [intOf]; omega⟩
   ·have hzb : (cmpN rk.name n == 0) = false := by rw [beq_eq_false_iff_ne]; exact hz
    clear hz
    go_wp2_with fail
    refine (unhide CL).mono ?_
    rintro e w2 ⟨rfl, b2⟩
    clear c0 c1 c2 c3 c4 c5 c6 z0 z1 q0
    obtain ⟨x0, x1, x2, x3, x4, x5, x6⟩ := cells7 (block_kept b2 (unhide KX))
    have q3 := b2
    have hp : goneB n t true u rk = false := by unfold goneB; rw [hzb]; rfl
    have hk1 : keepK (goneB n t true u) rs (k + 1) = keepK (goneB n t true u) rs k ++ [rk] := by rw [keepK, unhide HRK, hp]; rfl
    have hg1 : goneK (goneB n t true u) rs (k + 1) = goneK (goneB n t true u) rs k := by rw [goneK, unhide HRK, hp]; rfl
    have HK1 := hide hk1
    have HG1 := hide hg1
    have qq := below_next bx q3
    have kout2 := block_kept qq hout
    have row2 := (unhide HROW).later qq
    obtain ⟨xs, hxo, hxs⟩ := row2
    have hxl : xs.length = (keepK (goneB n t true u) rs k).length * 7 := hxo.1
    have by2 := below_alloc (w := w2) (.cells #[.slice na rk.name.length nc, .int .i64 rk.type, .int .i64 rk.ttl, .int .i64 rk.addr, .slice ta rk.to.length tc, .slice xa rk.text.length xc, .slice ia rk.nums.length ic] 52)
    have ky2 := heap_alloc_new w2 (.cells #[.slice na rk.name.length nc, .int .i64 rk.type, .int .i64 rk.ttl, .int .i64 rk.addr, .slice ta rk.to.length tc, .slice xa rk.text.length xc, .slice ia rk.nums.length ic] 52)
    obtain ⟨o0, o1⟩ := cells2 kout2
    have kout3 := block_kept by2 kout2
    have HXO := hide hxo
    have HXS := hide hxs
    have KY := hide ky2
    have BY := hide by2
    have KO3 := hide kout3
    have zq := qq.size
    have hbq : Below (w.heap.size + 4) W w2 := hb.trans (qq.mono (by omega))
    have HBQ := hide hbq
    clear hp hk1 hg1 hxo hxs ky2 by2 kout3 kout2 hbq
    go_wp2_with (at_builtin; refine append_rec rfl _ _ 30 52 rfl Tryz.underlying30 _ info_rr rfl (w.heap.size + 5) _ (keepK (goneB n t true u) rs k).length xs rfl (ownsRow_later (unhide HXO) (unhide BY)) w2.heap.size (cellsR (.slice na rk.name.length nc) (.slice ta rk.to.length tc) (.slice xa rk.text.length xc) (.slice ia rk.nums.length ic) rk) rfl (unhide KY) rfl (by simp [cellsR, Value.oneCell']) (by omega) (by have := (unhide BY).size; omega) ?_)
    intro v5 w5 o5 g5
    have hx5 := ownsRow_later (unhide HXO) (unhide BY)
    have kout5 := block_grown g5 (unhide KO3) (row_type hx5 (unhide KO3) (by decide))
    have R5 := RowS.snoc hxl (unhide HXS) o5 (unhide HU0)
    rw [← unhide HK1] at R5
    have g6 := grown_setCell w5 ⟨w.heap.size + 4, 1, none⟩ v5
    have R6 := R5.off g6 (by show w.heap.size + 4 < w.heap.size + 5; omega)
    have hb5 : Below (w.heap.size + 4) W w5 := ((unhide HBQ).trans ((unhide BY).mono (by omega))).grown g5 (by have := (unhide HBQ).size; have := (unhide BY).size; omega) (fun q hq => by have := (World.ownsRow.lt hx5 q hq).1; omega)
    have hb6 : Below (w.heap.size + 4) W (w5.setCell ⟨w.heap.size + 4, 1, none⟩ v5) := hb5.setCell (by show w.heap.size + 4 ≤ w.heap.size + 4; omega) v5
    have kout6 := block_setAt kout5 1 v5
    obtain ⟨va5, vc5, rfl⟩ := R5.slice
    obtain ⟨o0b, o1b⟩ := cells2 kout5
    obtain ⟨f0b, f1b⟩ := frozen2 kout5
    have HR6 := hide R6
    have HB6 := hide hb6
    have KO6 := hide kout6
    clear o5 g5 R5 R6 hb5 hb6 kout5 kout6 g6 hx5 o0 o1 x0 x1 x2 x3 x4 x5 x6
    go_wp2_with fail
    exact ⟨⟨k + 1, _, by omega, by go_num, by rw [unhide HG1], unhide KO6, unhide HR6, unhide HB6⟩, by simp [intOf]; omega⟩
  ·obtain rfl : k = m := by omega
   have kr := (hb.block _ (by omega)).trans (unhide KR)
   obtain ⟨o0, o1⟩ := cells2 hout
   obtain ⟨r0, r1⟩ := cells2 kr
   obtain ⟨f0, f1⟩ := frozen2 kr
   have KRR := hide kr
   have HROW := hide hrow
   have BW := hide bw
   have hkm : ¬ (k : Int) < k := by omega
   clear kr hrow bw hout kz
   generalize hkl' : keepK (goneB n t true u) rs k = kp at *
   go_wp2_with fail
   clear o0 o1 r0 r1 f0 f1 z0 z1
   have kf : ((wr.setCell ⟨w.heap.size + 3, 0, none⟩ (.slice oa o.length oc)).setCell ⟨w.heap.size + 3, 1, none⟩ (.slice va kp.length vc)).heap[w.heap.size + 3]? = some (.cells #[.slice oa o.length oc, .slice va kp.length vc] 34) := block_setAt (block_setAt (unhide KRR) 0 _) 1 _
   have R6 := ((unhide HROW).off (grown_setCell wr ⟨w.heap.size + 3, 0, none⟩ (.slice oa o.length oc)) (by show w.heap.size + 3 < w.heap.size + 5; omega)).off (grown_setCell _ ⟨w.heap.size + 3, 1, none⟩ (.slice va kp.length vc)) (by show w.heap.size + 3 < w.heap.size + 5; omega)
   have b6 : Below w.heap.size w ((wr.setCell ⟨w.heap.size + 3, 0, none⟩ (.slice oa o.length oc)).setCell ⟨w.heap.size + 3, 1, none⟩ (.slice va kp.length vc)) := ((unhide BW).setCell (by show w.heap.size ≤ w.heap.size + 3; omega) _).setCell (by show w.heap.size ≤ w.heap.size + 3; omega) _
   refine bodyPost_ret (results_cell_tmp_row rfl _ _ (w.heap.size + 3) 34 #[.slice oa o.length oc, .slice va kp.length vc] (0, 0) _ rfl kf Tryz.underlying34 rfl (by kernel_rfl)) rfl ?_
   exact ⟨_, rfl, ⟨(unhide HE).name.below b6, R6.has b6⟩, b6⟩
end Go.Proofs.YtmlcmkoefelolaaGreat

namespace Go.Proofs.YtmlcmkoefelolaaGreat
open Go.RowKit
set_option linter.unusedVariables false

theorem info_sl2 : (Tryz.prog.info? 44).map (fun i => (i.zero, i.size, i.bytes)) = some (some (.slice none 0 0), 1, 24) := by kernel_rfl

set_option maxHeartbeats 2000000 in
set_option maxRecDepth 100000 in
theorem l2own_short {v : Value} {n : List (List Int)} {w : World} (h : HasL w v n) (hs : n.length ≤ 7) (hs2 : ∀ k, k < n.length → (n.getD k []).length ≤ 16) :
  Calls Tryz.prog 100 #[.agg #[v]] w fun e w' => ∃ v', e = .returned (.agg #[v']) ∧ OwnL w.heap.size 44 5 w' v' n ∧ Below w.heap.size w w' := by
 obtain ⟨a, cap, rfl, hcl, hcm⟩ := h.form
 unfold maxLen at hcm
 obtain ⟨hsz, h1, h2⟩ := box3 w (.cells #[.slice a n.length cap] 32) #[.slice none 0 0] #[.slice none 0 0] 32 32
 have bb : Below w.heap.size w (((w.alloc (.cells #[.slice a n.length cap] 32)).alloc (.cells #[.slice none 0 0] 32)).alloc (.cells #[.slice none 0 0] 32)) :=
  ((below_alloc _).alloc (below_alloc _).size _).alloc ((below_alloc _).alloc (below_alloc _).size _).size _
 have hbx : (((w.alloc (.cells #[.slice a n.length cap] 32)).alloc (.cells #[.slice none 0 0] 32)).alloc (.cells #[.slice none 0 0] 32)).heap[w.heap.size]? = some (.cells #[.slice a n.length cap] 32) :=
  block_kept (below_alloc _) (block_kept (below_alloc _) (heap_alloc_new w _))
 have H := hide h
 clear h
 have HS2 := hide hs2
 clear hs2
 generalize hn : n.length = m at *
 have HN := hide hn
 clear hn
 go_enter Tryz.func100, Tryz.ntmps100
 go_wp2
 generalize ((w.alloc (.cells #[.slice a m cap] 32)).alloc (.cells #[.slice none 0 0] 32)).alloc (.cells #[.slice none 0 0] 32) = W at *
 go_loopw [4] (fun i wr => ∃ (k : Nat) (o : Value), k ≤ m ∧ i = .int .i64 k ∧ wr.heap[w.heap.size]? = some (.cells #[.slice a m cap] 32) ∧ wr.heap[w.heap.size + 1]? = some (.cells #[.slice none 0 0] 32) ∧ wr.heap[w.heap.size + 1 + 1]? = some (.cells #[o] 32) ∧ OwnL (w.heap.size + 3) 44 5 wr o (n.take k) ∧ Below w.heap.size w wr) (fun i _ => m - (intOf i).toNat)
 case atStart => exact ⟨0, .slice none 0 0, Nat.zero_le _, rfl, hbx, h1, h2, ⟨[], by simpa using World.ownsRow_nil _ _ _ _, by simp, by simp⟩, bb⟩
 case round =>
  obtain ⟨k, o, hk, rfl, hr0, hr1, hr2, ho, hb⟩ := hrel
  have c0 := block_one hr0
  by_cases hlt : k < m
  ·obtain ⟨b, off, u, rfl, hbl, hc, hu⟩ := ((unhide H).below hb).here (k := k) (by rw [unhide HN]; exact hlt)
   have hlk := unhide HS2 k hlt
   have htk := hide (show n.take (k + 1) = n.take k ++ [n.getD k []] by rw [List.take_succ_eq_append_getElem (by rw [unhide HN]; exact hlt)]; simp [show k < n.length by rw [unhide HN]; exact hlt])
   have htl : (n.take k).length = k := by rw [List.length_take, unhide HN]; omega
   generalize n.getD k [] = lab at *
   generalize n.take k = nk at *
   subst htl
   have HU := hide hu
   obtain ⟨ua, uc, rfl, _⟩ := hu.form
   clear hu
   obtain ⟨oa, oc, rfl, _⟩ := ho.hasL.form
   have hod := ho.below (below_drew (w := wr))
   clear ho
   have HO := hide hod
   obtain ⟨vs, hvs, hva, hvd⟩ := hod
   have hvl : vs.length = nk.length := by have := hvs.1; simpa using this
   have kd2 := block_kept (below_drew (w := wr)) hr2
   have kd1 := block_kept (below_drew (w := wr)) hr1
   have bd := below_next hb (below_drew (w := wr))
   have cod := block_one kd2
   have HUd := hide ((unhide HU).below below_drew)
   have HVS := hide hvs
   have HVA := hide hva
   have HVD := hide hvd
   have z3 := block_lt hr2
   have zb : w.heap.size + 3 ≤ wr.drew.heap.size := by show w.heap.size + 3 ≤ wr.heap.size; omega
   clear hva hvd hvs
   have kd0 := block_kept (below_drew (w := wr)) hr0
   have KD0 := hide kd0
   have KD2 := hide kd2
   have KD1 := hide kd1
   have cd0 := block_one kd0
   have cul : wr.drew.cell? ⟨b, off + nk.length, none⟩ = some (.slice ua lab.length uc) := hc
   have ca0 : ∀ o, (wr.alloc o).cell? ⟨w.heap.size, 0, none⟩ = some (.slice (some ⟨b, off, none⟩) m cap) := fun o => block_one (block_kept (below_alloc o) hr0)
   have ca2 : ∀ o, (wr.alloc o).cell? ⟨w.heap.size + 1 + 1, 0, none⟩ = some (.slice oa nk.length oc) := fun o => block_one (block_kept (below_alloc o) hr2)
   have cau : ∀ o, (wr.alloc o).cell? ⟨b, off + nk.length, none⟩ = some (.slice ua lab.length uc) := fun o => ((below_alloc o).cell (p := ⟨b, off + nk.length, none⟩) hbl).trans hc
   have HUA := hide (show ∀ o, Has (wr.drew.alloc o) (.slice ua lab.length uc) lab from fun o => (unhide HUd).below (below_alloc o))
   clear kd2 kd1 kd0
   go_wp2_with fail
   go_region_law (first
    | (refine step_append_bytes rfl (.tmp 14) (.tmp 19) 44 5 rfl Tryz.underlying44 info_u8 wr.drew.heap.size _ _ [] lab (by simp [Act.eval]) (by simp [Act.eval]) (own_lit wr.drew wr.drew.heap.size 5 [] (Nat.le_refl _) (by simp)) (unhide HUA _).reads (by simp only [List.length_nil]; omega) (below_alloc _).size ?_; intro u1 w1 ou g1; have b1 := lit_grown (w := wr.drew) g1; obtain ⟨u1a, u1c, rfl, _⟩ := ou.lies; have OU := hide ou; have B1 := hide b1; have co1 := block_one (block_kept b1 (unhide KD2)); have ca1 : ∀ o, (w1.alloc o).cell? ⟨w.heap.size + 1 + 1, 0, none⟩ = some (.slice oa nk.length oc) := (fun o => block_one (block_kept (below_alloc o) (block_kept b1 (unhide KD2)))); clear ou b1 g1)
    | (refine step_append_row rfl (.tmp 13) (.tmp 21) 22 44 rfl Tryz.underlying22 info_sl2 (w.heap.size + 3) (.slice oa nk.length oc) _ vs [.slice u1a lab.length u1c] (by simp [Act.eval]) (by simp [Act.eval]) (by rw [hvl]; exact World.ownsRow.alloc (ownsRow_kept' (unhide HVS) (unhide B1)) _) (one_more w1 44 _) (by intro y hy; simp at hy; subst hy; rfl) (by rw [hvl]; simp; omega) (by have := (unhide B1).size; simp; omega) ?_; intro v2 w2 o2 g2; obtain ⟨p2, k2, y2⟩ := snoc_step g2 o2 rfl (unhide HVS) (unhide HVA) (unhide HVD) ((unhide B1).alloc (unhide B1).size _) ((unhide OU).alloc _) zb (by decide) (block_kept (below_alloc _) (block_kept (unhide B1) (unhide KD2))) (by decide); obtain ⟨v2a, v2c, rfl, _⟩ := p2.hasL.form; have co2 := block_one k2; have fo2 := block_frozen k2 0))
   all_goals
    go_wp2_with fail
    have k1 := (y2.block (w.heap.size + 1) (by omega)).trans (unhide KD1)
    have k0 := (y2.block w.heap.size (by omega)).trans (unhide KD0)
    refine ⟨⟨nk.length + 1, _, by omega, by go_num, block_other k0 (by omega) 0 _, block_other k1 (by omega) 0 _, block_set k2 _, ?_, (bd.trans (y2.mono (by omega))).setCell (by show w.heap.size ≤ w.heap.size + 1 + 1; omega) _⟩, by simp [intOf]; omega⟩
    rw [unhide htk]
    simp only [List.length_append, List.length_cons, List.length_nil] at p2
    exact p2.kept (grown_setCell _ _ _) (by show w.heap.size + 1 + 1 < _; omega)
  ·obtain rfl : k = m := by omega
   obtain ⟨oa, oc, rfl, _⟩ := ho.hasL.form
   have htk : n.take k = n := List.take_of_length_le (by rw [unhide HN]; omega)
   rw [htk] at ho
   have HLK := hide (show (n.take k).length = n.length by rw [htk])
   rw [unhide HLK] at hr2
   have HO := hide ho
   have c2 := block_one hr2
   have c1 := block_one hr1
   have f1 := block_frozen hr1 0
   have M1 := hide (block_set hr1 (.slice oa n.length oc))
   clear ho htk hr1 hr2 HLK
   go_wp2
   refine bodyPost_ret (results_cell_row rfl _ _ (w.heap.size + 1) 32 #[.slice oa n.length oc] (0, 0) _ rfl (unhide M1) Tryz.underlying32 rfl (by kernel_rfl)) rfl ?_
   exact ⟨_, rfl, ((unhide HO).kept (grown_setCell _ _ _) (by show w.heap.size + 1 < _; omega)).mono (by omega), hb.setCell (by show w.heap.size ≤ w.heap.size + 1; omega) _⟩
end Go.Proofs.YtmlcmkoefelolaaGreat

namespace Go.Proofs.YtmlcmkoefelolaaGreat
open Go.RowKit

/-- A drawn name is short. -/
def DrawnN (n : List (List Int)) : Prop := n.length ≤ 7 ∧ ∀ k, k < n.length → (n.getD k []).length ≤ 16
end Go.Proofs.YtmlcmkoefelolaaGreat
