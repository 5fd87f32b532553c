/-
  Contract of the specification's l5drop. Plain facts: what l5add has made of the first k records. No program is named here. Contract of the specification's l5add. Contracts of the specification's l2own: a name of its own with the same labels.
-/
import Derived.Test.YtmlcmkoefelolaaGreatAddG35
import Derived.Test.YtmlcmkoefelolaaGreatAddG36
import Derived.Test.YtmlcmkoefelolaaGreatAddG15
import Derived.Test.YtmlcmkoefelolaaGreatAddG03
import Derived.Test.YtmlcmkoefelolaaGreatAddG33
import Derived.Test.YtmlcmkoefelolaaGreatAddG29
import Derived.Test.YtmlcmkoefelolaaGreatAddG04
import Derived.Test.YtmlcmkoefelolaaGreatAddG05
namespace Go.Proofs.YtmlcmkoefelolaaGreat
open Go.RowKit
set_option linter.unusedVariables false

end Go.Proofs.YtmlcmkoefelolaaGreat

namespace Go.Proofs.YtmlcmkoefelolaaGreat
open Go.RowKit
set_option linter.unusedVariables false

def addK (r : Rec) (rs : List Rec) : Nat → List Rec × Bool
 | 0 => ([], false)
 | k + 1 => (((addK r rs k).1 ++ (if (addK r rs k).2 = false ∧ cmpR r (rs.getD k recZ) ≤ 0 then [r] else [])) ++ (if cmpR r (rs.getD k recZ) ≠ 0 then [upd r (rs.getD k recZ)] else []), (addK r rs k).2 || decide (cmpR r (rs.getD k recZ) ≤ 0))
theorem addK_is (r : Rec) (rs : List Rec) : ∀ k, k ≤ rs.length → (addK r rs k).1 ++ addL r (rs.drop k) (addK r rs k).2 = addL r rs false
 | 0, _ => by simp [addK]
 | k + 1, h => by
  have ih := addK_is r rs k (by omega)
  have hk : k < rs.length := by omega
  have e : rs.drop k = rs.getD k recZ :: rs.drop (k + 1) := by
   rw [List.drop_eq_getElem_cons hk, List.getD_eq_getElem?_getD, List.getElem?_eq_getElem hk]
   rfl
  rw [e, addL] at ih
  rw [← ih, addK]
  simp only [List.append_assoc]
theorem addK_end (r : Rec) (rs : List Rec) : (addK r rs rs.length).1 ++ (if (addK r rs rs.length).2 = true then [] else [r]) = addL r rs false := by
 have := addK_is r rs rs.length (Nat.le_refl _)
 rw [List.drop_length] at this
 rw [← this, addL]
theorem addK_len (r : Rec) (rs : List Rec) : ∀ k, (addK r rs k).1.length ≤ 2 * k
 | 0 => Nat.le_refl _
 | k + 1 => by
  have := addK_len r rs k
  rw [addK]
  simp only [List.length_append]
  split <;> split <;> simp only [List.length_cons, List.length_nil] <;> omega
end Go.Proofs.YtmlcmkoefelolaaGreat

namespace Go.Proofs.YtmlcmkoefelolaaGreat
open Go.RowKit
set_option linter.unusedVariables false

set_option maxHeartbeats 8000000 in
set_option maxRecDepth 100000 in
theorem l5add_has {vo vr un ut ux ui : Value} {o : List (List Int)} {rs : List Rec} {r : Rec} {w : World} (h : HasZ w vo vr o rs) (hx : HasR w un ut ux ui r) (h60 : rs.length ≤ 60) (hok : ∀ k, k < rs.length → rrOk (rs.getD k recZ) = true) (hrok : rrOk r = true) :
  Calls Tryz.prog 63 #[.agg #[vo, vr], .agg #[un, .int .i64 r.type, .int .i64 r.ttl, .int .i64 r.addr, ut, ux, ui]] w fun e w' => ∃ v', e = .returned (.agg #[vo, v']) ∧ HasZ w' vo v' o (addL r rs false) ∧ Below w.heap.size w w' := by
 obtain ⟨oa, oc, rfl, _⟩ := h.name.form
 obtain ⟨ra, rc, rfl, _⟩ := h.recs.form
 obtain ⟨una, unc, rfl, _⟩ := hx.name.form
 obtain ⟨uta, utc, rfl, _⟩ := hx.to.form
 obtain ⟨uxa, uxc, rfl, _⟩ := hx.text.form
 obtain ⟨uia, uic, rfl, _⟩ := hx.nums.form
 obtain ⟨hsz, k0, x0⟩ := box2 w (.cells #[.slice oa o.length oc, .slice ra rs.length rc] 34) #[.slice una r.name.length unc, .int .i64 r.type, .int .i64 r.ttl, .int .i64 r.addr, .slice uta r.to.length utc, .slice uxa r.text.length uxc, .slice uia r.nums.length uic] 52
 have b0 := below2 w (.cells #[.slice oa o.length oc, .slice ra rs.length rc] 34) (.cells #[.slice una r.name.length unc, .int .i64 r.type, .int .i64 r.ttl, .int .i64 r.addr, .slice uta r.to.length utc, .slice uxa r.text.length uxc, .slice uia r.nums.length uic] 52)
 have b1 := below_alloc (w := (w.alloc (.cells #[.slice oa o.length oc, .slice ra rs.length rc] 34)).alloc (.cells #[.slice una r.name.length unc, .int .i64 r.type, .int .i64 r.ttl, .int .i64 r.addr, .slice uta r.to.length utc, .slice uxa r.text.length uxc, .slice uia r.nums.length uic] 52)) (.cells #[.slice none 0 0, .slice none 0 0] 34)
 have r0 := heap_alloc_new ((w.alloc (.cells #[.slice oa o.length oc, .slice ra rs.length rc] 34)).alloc (.cells #[.slice una r.name.length unc, .int .i64 r.type, .int .i64 r.ttl, .int .i64 r.addr, .slice uta r.to.length utc, .slice uxa r.text.length uxc, .slice uia r.nums.length uic] 52)) (.cells #[.slice none 0 0, .slice none 0 0] 34)
 have hs1 : (((w.alloc (.cells #[.slice oa o.length oc, .slice ra rs.length rc] 34)).alloc (.cells #[.slice una r.name.length unc, .int .i64 r.type, .int .i64 r.ttl, .int .i64 r.addr, .slice uta r.to.length utc, .slice uxa r.text.length uxc, .slice uia r.nums.length uic] 52)).alloc (.cells #[.slice none 0 0, .slice none 0 0] 34)).heap.size = w.heap.size + 3 := by rw [World.size_alloc, hsz]
 rw [hsz] at r0
 have b2 := below_alloc (w := ((w.alloc (.cells #[.slice oa o.length oc, .slice ra rs.length rc] 34)).alloc (.cells #[.slice una r.name.length unc, .int .i64 r.type, .int .i64 r.ttl, .int .i64 r.addr, .slice uta r.to.length utc, .slice uxa r.text.length uxc, .slice uia r.nums.length uic] 52)).alloc (.cells #[.slice none 0 0, .slice none 0 0] 34)) (.cells #[.slice oa o.length oc, .slice none 0 0] 34)
 have t0 := heap_alloc_new (((w.alloc (.cells #[.slice oa o.length oc, .slice ra rs.length rc] 34)).alloc (.cells #[.slice una r.name.length unc, .int .i64 r.type, .int .i64 r.ttl, .int .i64 r.addr, .slice uta r.to.length utc, .slice uxa r.text.length uxc, .slice uia r.nums.length uic] 52)).alloc (.cells #[.slice none 0 0, .slice none 0 0] 34)) (.cells #[.slice oa o.length oc, .slice none 0 0] 34)
 have hs2 : ((((w.alloc (.cells #[.slice oa o.length oc, .slice ra rs.length rc] 34)).alloc (.cells #[.slice una r.name.length unc, .int .i64 r.type, .int .i64 r.ttl, .int .i64 r.addr, .slice uta r.to.length utc, .slice uxa r.text.length uxc, .slice uia r.nums.length uic] 52)).alloc (.cells #[.slice none 0 0, .slice none 0 0] 34)).alloc (.cells #[.slice oa o.length oc, .slice none 0 0] 34)).heap.size = w.heap.size + 4 := by rw [World.size_alloc, hs1]
 rw [hs1] at t0
 have b12 := below_next b1 b2
 have bb := below_next b0 b12
 have KZ := hide (block_kept b12 k0)
 have KR := hide (block_kept b12 x0)
 have KS := hide (block_kept b2 r0)
 have KO := hide t0
 have HE := hide h
 have HX0 := hide hx
 have HOK := hide hok
 obtain ⟨z0, z1⟩ := cells2 (block_kept b1 k0)
 have hend := addK_end r rs
 clear h hx hok k0 x0 r0 t0 b0 b1 b2 b12 hsz hs1
 generalize hm : rs.length = m at *
 have HN := hide hm
 generalize hKP : addL r rs false = KP at *
 have HEND := hide hend
 clear hm hend hKP
 go_enter Tryz.func63, Tryz.ntmps63
 go_wp2_with fail
 clear z0 z1
 have zW : w.heap.size + 4 ≤ ((((w.alloc (.cells #[.slice oa o.length oc, .slice ra m rc] 34)).alloc (.cells #[.slice una r.name.length unc, .int .i64 r.type, .int .i64 r.ttl, .int .i64 r.addr, .slice uta r.to.length utc, .slice uxa r.text.length uxc, .slice uia r.nums.length uic] 52)).alloc (.cells #[.slice none 0 0, .slice none 0 0] 34)).alloc (.cells #[.slice oa o.length oc, .slice none 0 0] 34)).heap.size := Nat.le_of_eq hs2.symm
 clear hs2
 generalize (((w.alloc (.cells #[.slice oa o.length oc, .slice ra m rc] 34)).alloc (.cells #[.slice una r.name.length unc, .int .i64 r.type, .int .i64 r.ttl, .int .i64 r.addr, .slice uta r.to.length utc, .slice uxa r.text.length uxc, .slice uia r.nums.length uic] 52)).alloc (.cells #[.slice none 0 0, .slice none 0 0] 34)).alloc (.cells #[.slice oa o.length oc, .slice none 0 0] 34) = W at *
 go_loopw [6, 7] (fun put i wr => ∃ (k : Nat) (v : Value), k ≤ m ∧ i = .int .i64 k ∧ put = .bool (addK r rs k).2 ∧ wr.heap[w.heap.size + 3]? = some (.cells #[.slice oa o.length oc, v] 34) ∧ RowS (w.heap.size + 4) 52 w wr v (addK r rs k).1 ∧ Below (w.heap.size + 3) W wr) (fun _ i _ => m - (intOf i).toNat)
 case atStart => exact ⟨0, _, Nat.zero_le _, rfl, rfl, unhide KO, RowS.nil _ _ _ _, Below.refl _ _⟩
 case round =>
  obtain ⟨k, v, hk, rfl, rfl, hout, hrow, hb⟩ := hrel
  have zw := hb.size
  have bw : Below w.heap.size w wr := bb.trans (hb.mono (by omega))
  have kz := (hb.block _ (by omega)).trans (unhide KZ)
  obtain ⟨z0, z1⟩ := cells2 kz
  have hlen0 := addK_len r rs k
  obtain ⟨va, vc, rfl⟩ := hrow.slice
  by_cases hlt : k < m
  ·obtain ⟨b, off, na, nc, ta, tc, xa, xc, ia, ic, rfl, hbl, hc, hu⟩ := (unhide HE).recs.here (k := k) (by rw [unhide HN]; exact hlt)
   have hrk := unhide HOK k hlt
   have hstep : addK r rs (k + 1) = _ := addK.eq_2 r rs k
   have hxok := upd_ok hrok hrk
   generalize hrkk : rs.getD k recZ = rk at *
   generalize hA : addK r rs k = A at *
   obtain ⟨l0, p0⟩ := A
   dsimp only at hstep hrow hout hlen0
   have HC0 := hide (rfl : cmpR r rk = cmpR r rk)
   generalize hcc : cmpR r rk = c at hstep HC0
   replace HC0 := hide hcc
   have HSTEP := hide hstep
   have HXOK := hide hxok
   have HU0 := hide hu
   have HU := hide (hu.below bw)
   have HX := hide ((unhide HX0).below bw)
   have HROW := hide hrow
   obtain ⟨xsW, hxW, _⟩ := hrow
   have HXW := hide hxW
   obtain ⟨c0, c1, c2, c3, c4, c5, c6⟩ := range7 (range_below hc hbl bw)
   have KRr := hide ((hb.block _ (by omega)).trans (unhide KR))
   have bx := below_alloc (w := wr) (.cells #[.slice na rk.name.length nc, .int .i64 rk.type, .int .i64 rk.ttl, .int .i64 rk.addr, .slice ta rk.to.length tc, .slice xa rk.text.length xc, .slice ia rk.nums.length ic] 52)
   have KX := hide (heap_alloc_new wr (.cells #[.slice na rk.name.length nc, .int .i64 rk.type, .int .i64 rk.ttl, .int .i64 rk.addr, .slice ta rk.to.length tc, .slice xa rk.text.length xc, .slice ia rk.nums.length ic] 52))
   obtain ⟨y0, y1, y2, y3, y4, y5, y6⟩ := cells7 (block_kept bx (unhide KRr))
   have CL := l2cmp_has (((unhide HU).below bx).name) (((unhide HX).below bx).name) (by have := (rrOk_parts hrk).1; have := (nameOk_parts this).1; omega) (by have := (rrOk_parts hrok).1; have := (nameOk_parts this).1; omega)
   have hkm : (k : Int) < m := by omega
   clear hc hu hrkk kz hstep hxok hcc hA hxW
   dsimp only
   by_cases hz : cmpN rk.name r.name = 0
   ·rw [hz] at CL
    replace CL := hide CL
    by_cases hty : rk.type = r.type
    ·have ety : (rk.type == r.type) = true := by rw [hty]; simp
     have hxk : upd r rk = (⟨rk.name, rk.type, r.ttl, rk.addr, rk.to, rk.text, rk.nums⟩ : Rec) := by unfold upd; rw [if_pos ⟨hz, hty⟩]
     rw [hxk] at HSTEP HXOK
     have HXK : Hid (cmpR r (⟨rk.name, rk.type, r.ttl, rk.addr, rk.to, rk.text, rk.nums⟩ : Rec) = c) := hide (by rw [← hxk, upd_cmp2]; exact unhide HC0)
     clear hxk
     clear hz hty
     cases p0 with
     | false =>
      by_cases hc0 : c = 0
      ·subst hc0
       go_wp2_with fail
       refine (unhide CL).mono ?_
       rintro e w2 ⟨rfl, b2⟩
       clear c0 c1 c2 c3 c4 c5 c6 z0 z1
       have q2 := below_next bx b2
       have kx2 := block_kept b2 (unhide KX)
       obtain ⟨x0a, x1a, x2a, x3a, x4a, x5a, x6a⟩ := cells7 kx2
       have f2a := block_frozen kx2 2
       have kx3 := block_setAt kx2 2 (.int .i64 r.ttl)
       have kr2 := block_kept q2 (unhide KRr)
       obtain ⟨y0, y1, y2, y3, y4, y5, y6⟩ := cells7 kr2
       have gs := grown_setCell w2 ⟨wr.heap.size, 2, none⟩ (.int .i64 r.ttl)
       have bs : Below wr.heap.size wr (w2.setCell ⟨wr.heap.size, 2, none⟩ (.int .i64 r.ttl)) := q2.setCell (by show wr.heap.size ≤ wr.heap.size; omega) _
       have kr3 := block_kept bs (unhide KRr)
       obtain ⟨y0b, y1b, y2b, y3b, y4b, y5b, y6b⟩ := cells7 kr3
       obtain ⟨x0, x1, x2, x3, x4, x5, x6⟩ := cells7 kx3
       have hx3 : HasR (w2.setCell ⟨wr.heap.size, 2, none⟩ (.int .i64 r.ttl)) (.slice na rk.name.length nc) (.slice ta rk.to.length tc) (.slice xa rk.text.length xc) (.slice ia rk.nums.length ic) (⟨rk.name, rk.type, r.ttl, rk.addr, rk.to, rk.text, rk.nums⟩ : Rec) := ⟨((unhide HU).below bs).name, ((unhide HU).below bs).to, ((unhide HU).below bs).text, ((unhide HU).below bs).nums⟩
       have CM := l3cmp_has ((unhide HX).below bs) hx3 hrok (unhide HXOK)
       rw [unhide HXK] at CM
       replace CM := hide CM
       have KX3 := hide kx3
       have BS := hide bs
       clear kx2 kx3 kr2 kr3 hx3 bs gs
       go_wp2_with fail
       clear x0a x1a x2a x3a x4a x5a x6a f2a y0 y1 y2 y3 y4 y5 y6 y0b y1b y2b y3b y4b y5b y6b x0 x1 x2 x3 x4 x5 x6
       generalize w2.setCell ⟨wr.heap.size, 2, none⟩ (.int .i64 r.ttl) = w2s at *
       refine (unhide CM).mono ?_
       rintro e w3 ⟨rfl, b3⟩
       have q3 := below_next (unhide BS) b3
       have KXI := hide (block_kept b3 (unhide KX3))
       have KRI := hide (block_kept q3 (unhide KRr))
       have ROWa := hide ((unhide HROW).later q3)
       have KOa := hide (block_kept q3 hout)
       have HBa := hide (hb.trans (q3.mono (by omega)))
       have zq3 := q3.size
       obtain ⟨x0, x1, x2, x3, x4, x5, x6⟩ := cells7 (unhide KXI)
       obtain ⟨y0, y1, y2, y3, y4, y5, y6⟩ := cells7 (unhide KRI)
       obtain ⟨xsa, hxoa, hxsa⟩ := unhide ROWa
       have hxla : xsa.length = l0.length * 7 := hxoa.1
       have bya := below_alloc (w := w3) (.cells #[.slice una r.name.length unc, .int .i64 r.type, .int .i64 r.ttl, .int .i64 r.addr, .slice uta r.to.length utc, .slice uxa r.text.length uxc, .slice uia r.nums.length uic] 52)
       have kya : ((w3).alloc (.cells #[.slice una r.name.length unc, .int .i64 r.type, .int .i64 r.ttl, .int .i64 r.addr, .slice uta r.to.length utc, .slice uxa r.text.length uxc, .slice uia r.nums.length uic] 52)).heap[w3.heap.size]? = some (.cells #[.slice una r.name.length unc, .int .i64 r.type, .int .i64 r.ttl, .int .i64 r.addr, .slice uta r.to.length utc, .slice uxa r.text.length uxc, .slice uia r.nums.length uic] 52) := heap_alloc_new w3 _
       obtain ⟨o0a, o1a⟩ := cells2 (unhide KOa)
       have HXOa := hide hxoa
       have HXSa := hide hxsa
       have KYa := hide kya
       have BYa := hide bya
       have KOba := hide (block_kept bya (unhide KOa))
       have zqa := (unhide HBa).size
       have hxba := ownsRow_later hxoa bya
       have HXBa := hide hxba
       clear hxoa hxsa kya bya hxba
       go_wp2_with (at_builtin; first | (refine append_rec rfl _ _ 30 52 rfl Tryz.underlying30 _ info_rr rfl (w.heap.size + 4) _ l0.length xsa rfl (unhide HXBa) w3.heap.size (cellsR (.slice una r.name.length unc) (.slice uta r.to.length utc) (.slice uxa r.text.length uxc) (.slice uia r.nums.length uic) r) rfl (unhide KYa) rfl (by simp [cellsR, Value.oneCell']) (by omega) (Nat.le_trans (Nat.le_trans zW zqa) (unhide BYa).size) ?_) | (refine append_rec rfl _ _ 30 52 rfl Tryz.underlying30 _ info_rr rfl (w.heap.size + 4) _ l0.length xsa rfl (unhide HXBa) _ (cellsR (.slice una r.name.length unc) (.slice uta r.to.length utc) (.slice uxa r.text.length uxc) (.slice uia r.nums.length uic) r) rfl (heap_alloc_new _ _) rfl (by simp [cellsR, Value.oneCell']) (by omega) (Nat.le_trans (Nat.le_trans zW zqa) (unhide BYa).size) ?_))
       intro van wan owan gan
       have koutan := block_grown gan (unhide KOba) (row_type (unhide HXBa) (unhide KOba) (by decide))
       have R5an := RowS.snoc hxla (unhide HXSa) owan (unhide HX0)
       generalize hlan : l0 ++ [r] = lan at R5an
       have HLan := hide hlan
       have hllan : lan.length = l0.length + 1 := by rw [← hlan, List.length_append]; rfl
       have hllean : lan.length ≤ l0.length + 1 := Nat.le_of_eq hllan
       have R6an := R5an.off (grown_setCell wan ⟨w.heap.size + 3, 1, none⟩ van) (by show w.heap.size + 3 < w.heap.size + 4; omega)
       have hb5an : Below (w.heap.size + 3) W wan := ((unhide HBa).trans ((unhide BYa).mono (by omega))).grown gan (by have := (unhide HBa).size; have := (unhide BYa).size; omega) (fun q hq => by have := (World.ownsRow.lt (unhide HXBa) q hq).1; omega)
       have hb6an : Below (w.heap.size + 3) W (wan.setCell ⟨w.heap.size + 3, 1, none⟩ van) := hb5an.setCell (by show w.heap.size + 3 ≤ w.heap.size + 3; omega) van
       have kout6an := block_setAt koutan 1 van
       obtain ⟨vaan, vcan, rfl⟩ := R5an.slice
       obtain ⟨o0ban, o1ban⟩ := cells2 koutan
       obtain ⟨f0ban, f1ban⟩ := frozen2 koutan
       have ROWan := hide R6an
       have HBan := hide hb6an
       have KOan := hide kout6an
       clear owan gan R5an R6an hb5an hb6an koutan kout6an hlan hllan o0a o1a
       go_wp2_with fail
       have hst : addK r rs (k + 1) = (lan, true) := by
        rw [unhide HSTEP]
        rw [← unhide HLan]
        simp
       exact ⟨⟨k + 1, _, by omega, by go_num, by rw [hst], unhide KOan, by rw [hst]; exact unhide ROWan, unhide HBan⟩, by simp [intOf]; omega⟩
      ·have hne : ¬ c = 0 := hc0
       have hneb : (c != 0) = true := by rw [bne_iff_ne]; exact hc0
       by_cases hle : c ≤ 0
       ·clear hc0
        go_wp2_with fail
        refine (unhide CL).mono ?_
        rintro e w2 ⟨rfl, b2⟩
        clear c0 c1 c2 c3 c4 c5 c6 z0 z1
        have q2 := below_next bx b2
        have kx2 := block_kept b2 (unhide KX)
        obtain ⟨x0a, x1a, x2a, x3a, x4a, x5a, x6a⟩ := cells7 kx2
        have f2a := block_frozen kx2 2
        have kx3 := block_setAt kx2 2 (.int .i64 r.ttl)
        have kr2 := block_kept q2 (unhide KRr)
        obtain ⟨y0, y1, y2, y3, y4, y5, y6⟩ := cells7 kr2
        have gs := grown_setCell w2 ⟨wr.heap.size, 2, none⟩ (.int .i64 r.ttl)
        have bs : Below wr.heap.size wr (w2.setCell ⟨wr.heap.size, 2, none⟩ (.int .i64 r.ttl)) := q2.setCell (by show wr.heap.size ≤ wr.heap.size; omega) _
        have kr3 := block_kept bs (unhide KRr)
        obtain ⟨y0b, y1b, y2b, y3b, y4b, y5b, y6b⟩ := cells7 kr3
        obtain ⟨x0, x1, x2, x3, x4, x5, x6⟩ := cells7 kx3
        have hx3 : HasR (w2.setCell ⟨wr.heap.size, 2, none⟩ (.int .i64 r.ttl)) (.slice na rk.name.length nc) (.slice ta rk.to.length tc) (.slice xa rk.text.length xc) (.slice ia rk.nums.length ic) (⟨rk.name, rk.type, r.ttl, rk.addr, rk.to, rk.text, rk.nums⟩ : Rec) := ⟨((unhide HU).below bs).name, ((unhide HU).below bs).to, ((unhide HU).below bs).text, ((unhide HU).below bs).nums⟩
        have CM := l3cmp_has ((unhide HX).below bs) hx3 hrok (unhide HXOK)
        rw [unhide HXK] at CM
        replace CM := hide CM
        have KX3 := hide kx3
        have BS := hide bs
        clear kx2 kx3 kr2 kr3 hx3 bs gs
        go_wp2_with fail
        clear x0a x1a x2a x3a x4a x5a x6a f2a y0 y1 y2 y3 y4 y5 y6 y0b y1b y2b y3b y4b y5b y6b x0 x1 x2 x3 x4 x5 x6
        generalize w2.setCell ⟨wr.heap.size, 2, none⟩ (.int .i64 r.ttl) = w2s at *
        refine (unhide CM).mono ?_
        rintro e w3 ⟨rfl, b3⟩
        have q3 := below_next (unhide BS) b3
        have KXI := hide (block_kept b3 (unhide KX3))
        have KRI := hide (block_kept q3 (unhide KRr))
        have ROWa := hide ((unhide HROW).later q3)
        have KOa := hide (block_kept q3 hout)
        have HBa := hide (hb.trans (q3.mono (by omega)))
        have zq3 := q3.size
        obtain ⟨x0, x1, x2, x3, x4, x5, x6⟩ := cells7 (unhide KXI)
        obtain ⟨y0, y1, y2, y3, y4, y5, y6⟩ := cells7 (unhide KRI)
        obtain ⟨xsa, hxoa, hxsa⟩ := unhide ROWa
        have hxla : xsa.length = l0.length * 7 := hxoa.1
        have bya := below_alloc (w := w3) (.cells #[.slice una r.name.length unc, .int .i64 r.type, .int .i64 r.ttl, .int .i64 r.addr, .slice uta r.to.length utc, .slice uxa r.text.length uxc, .slice uia r.nums.length uic] 52)
        have kya : ((w3).alloc (.cells #[.slice una r.name.length unc, .int .i64 r.type, .int .i64 r.ttl, .int .i64 r.addr, .slice uta r.to.length utc, .slice uxa r.text.length uxc, .slice uia r.nums.length uic] 52)).heap[w3.heap.size]? = some (.cells #[.slice una r.name.length unc, .int .i64 r.type, .int .i64 r.ttl, .int .i64 r.addr, .slice uta r.to.length utc, .slice uxa r.text.length uxc, .slice uia r.nums.length uic] 52) := heap_alloc_new w3 _
        obtain ⟨o0a, o1a⟩ := cells2 (unhide KOa)
        have HXOa := hide hxoa
        have HXSa := hide hxsa
        have KYa := hide kya
        have BYa := hide bya
        have KOba := hide (block_kept bya (unhide KOa))
        have zqa := (unhide HBa).size
        have hxba := ownsRow_later hxoa bya
        have HXBa := hide hxba
        clear hxoa hxsa kya bya hxba
        go_wp2_with (at_builtin; first | (refine append_rec rfl _ _ 30 52 rfl Tryz.underlying30 _ info_rr rfl (w.heap.size + 4) _ l0.length xsa rfl (unhide HXBa) w3.heap.size (cellsR (.slice una r.name.length unc) (.slice uta r.to.length utc) (.slice uxa r.text.length uxc) (.slice uia r.nums.length uic) r) rfl (unhide KYa) rfl (by simp [cellsR, Value.oneCell']) (by omega) (Nat.le_trans (Nat.le_trans zW zqa) (unhide BYa).size) ?_) | (refine append_rec rfl _ _ 30 52 rfl Tryz.underlying30 _ info_rr rfl (w.heap.size + 4) _ l0.length xsa rfl (unhide HXBa) _ (cellsR (.slice una r.name.length unc) (.slice uta r.to.length utc) (.slice uxa r.text.length uxc) (.slice uia r.nums.length uic) r) rfl (heap_alloc_new _ _) rfl (by simp [cellsR, Value.oneCell']) (by omega) (Nat.le_trans (Nat.le_trans zW zqa) (unhide BYa).size) ?_))
        intro van wan owan gan
        have koutan := block_grown gan (unhide KOba) (row_type (unhide HXBa) (unhide KOba) (by decide))
        have R5an := RowS.snoc hxla (unhide HXSa) owan (unhide HX0)
        generalize hlan : l0 ++ [r] = lan at R5an
        have HLan := hide hlan
        have hllan : lan.length = l0.length + 1 := by rw [← hlan, List.length_append]; rfl
        have hllean : lan.length ≤ l0.length + 1 := Nat.le_of_eq hllan
        have R6an := R5an.off (grown_setCell wan ⟨w.heap.size + 3, 1, none⟩ van) (by show w.heap.size + 3 < w.heap.size + 4; omega)
        have hb5an : Below (w.heap.size + 3) W wan := ((unhide HBa).trans ((unhide BYa).mono (by omega))).grown gan (by have := (unhide HBa).size; have := (unhide BYa).size; omega) (fun q hq => by have := (World.ownsRow.lt (unhide HXBa) q hq).1; omega)
        have hb6an : Below (w.heap.size + 3) W (wan.setCell ⟨w.heap.size + 3, 1, none⟩ van) := hb5an.setCell (by show w.heap.size + 3 ≤ w.heap.size + 3; omega) van
        have kout6an := block_setAt koutan 1 van
        have kx5an := block_grown gan (block_kept (unhide BYa) (unhide KXI)) (fun e => by have := (World.ownsRow.lt (unhide HXW) _ e).2; omega)
        have kx6an := block_grown (grown_setCell wan ⟨w.heap.size + 3, 1, none⟩ van) kx5an (fun e => by simp only [Option.some.injEq] at e; omega)
        obtain ⟨vaan, vcan, rfl⟩ := R5an.slice
        obtain ⟨o0ban, o1ban⟩ := cells2 koutan
        obtain ⟨f0ban, f1ban⟩ := frozen2 koutan
        have ROWan := hide R6an
        have HBan := hide hb6an
        have KOan := hide kout6an
        have KXan := hide kx6an
        obtain ⟨x0, x1, x2, x3, x4, x5, x6⟩ := cells7 kx6an
        clear kx5an kx6an
        clear owan gan R5an R6an hb5an hb6an koutan kout6an hlan hllan o0a o1a
        have KRJ := hide True.intro
        obtain ⟨xsan, hxoan, hxsan⟩ := unhide ROWan
        have hxlan : xsan.length = lan.length * 7 := hxoan.1
        have byan := below_alloc (w := (wan.setCell ⟨w.heap.size + 3, 1, none⟩ (.slice vaan lan.length vcan))) (.cells #[.slice na rk.name.length nc, .int .i64 rk.type, .int .i64 r.ttl, .int .i64 rk.addr, .slice ta rk.to.length tc, .slice xa rk.text.length xc, .slice ia rk.nums.length ic] 52)
        have kyan : (((wan.setCell ⟨w.heap.size + 3, 1, none⟩ (.slice vaan lan.length vcan))).alloc (.cells #[.slice na rk.name.length nc, .int .i64 rk.type, .int .i64 r.ttl, .int .i64 rk.addr, .slice ta rk.to.length tc, .slice xa rk.text.length xc, .slice ia rk.nums.length ic] 52)).heap[wan.heap.size]? = some (.cells #[.slice na rk.name.length nc, .int .i64 rk.type, .int .i64 r.ttl, .int .i64 rk.addr, .slice ta rk.to.length tc, .slice xa rk.text.length xc, .slice ia rk.nums.length ic] 52) := (by have := heap_alloc_new (wan.setCell ⟨w.heap.size + 3, 1, none⟩ (.slice vaan lan.length vcan)) (.cells #[.slice na rk.name.length nc, .int .i64 rk.type, .int .i64 r.ttl, .int .i64 rk.addr, .slice ta rk.to.length tc, .slice xa rk.text.length xc, .slice ia rk.nums.length ic] 52); rwa [World.size_setCell] at this)
        obtain ⟨o0an, o1an⟩ := cells2 (unhide KOan)
        have HXOan := hide hxoan
        have HXSan := hide hxsan
        have KYan := hide kyan
        have BYan := hide byan
        have KOban := hide (block_kept byan (unhide KOan))
        have zqan := (unhide HBan).size
        have hxban := ownsRow_later hxoan byan
        have HXBan := hide hxban
        clear hxoan hxsan kyan byan hxban
        go_wp2_with (at_builtin; first | (refine append_rec rfl _ _ 30 52 rfl Tryz.underlying30 _ info_rr rfl (w.heap.size + 4) _ lan.length xsan rfl (unhide HXBan) wan.heap.size (cellsR (.slice na rk.name.length nc) (.slice ta rk.to.length tc) (.slice xa rk.text.length xc) (.slice ia rk.nums.length ic) (⟨rk.name, rk.type, r.ttl, rk.addr, rk.to, rk.text, rk.nums⟩ : Rec)) rfl (unhide KYan) rfl (by simp [cellsR, Value.oneCell']) (by omega) (Nat.le_trans (Nat.le_trans zW zqan) (unhide BYan).size) ?_) | (refine append_rec rfl _ _ 30 52 rfl Tryz.underlying30 _ info_rr rfl (w.heap.size + 4) _ lan.length xsan rfl (unhide HXBan) _ (cellsR (.slice na rk.name.length nc) (.slice ta rk.to.length tc) (.slice xa rk.text.length xc) (.slice ia rk.nums.length ic) (⟨rk.name, rk.type, r.ttl, rk.addr, rk.to, rk.text, rk.nums⟩ : Rec)) rfl (heap_alloc_new _ _) rfl (by simp [cellsR, Value.oneCell']) (by omega) (Nat.le_trans (Nat.le_trans zW zqan) (unhide BYan).size) ?_))
        intro vann wann owann gann
        have koutann := block_grown gann (unhide KOban) (row_type (unhide HXBan) (unhide KOban) (by decide))
        have R5ann := RowS.snoc hxlan (unhide HXSan) owann (show HasR w (.slice na rk.name.length nc) (.slice ta rk.to.length tc) (.slice xa rk.text.length xc) (.slice ia rk.nums.length ic) (⟨rk.name, rk.type, r.ttl, rk.addr, rk.to, rk.text, rk.nums⟩ : Rec) from ⟨(unhide HU0).name, (unhide HU0).to, (unhide HU0).text, (unhide HU0).nums⟩)
        generalize hlann : lan ++ [(⟨rk.name, rk.type, r.ttl, rk.addr, rk.to, rk.text, rk.nums⟩ : Rec)] = lann at R5ann
        have HLann := hide hlann
        have hllann : lann.length = lan.length + 1 := by rw [← hlann, List.length_append]; rfl
        have hlleann : lann.length ≤ lan.length + 1 := Nat.le_of_eq hllann
        have R6ann := R5ann.off (grown_setCell wann ⟨w.heap.size + 3, 1, none⟩ vann) (by show w.heap.size + 3 < w.heap.size + 4; omega)
        have hb5ann : Below (w.heap.size + 3) W wann := ((unhide HBan).trans ((unhide BYan).mono (by omega))).grown gann (by have := (unhide HBan).size; have := (unhide BYan).size; omega) (fun q hq => by have := (World.ownsRow.lt (unhide HXBan) q hq).1; omega)
        have hb6ann : Below (w.heap.size + 3) W (wann.setCell ⟨w.heap.size + 3, 1, none⟩ vann) := hb5ann.setCell (by show w.heap.size + 3 ≤ w.heap.size + 3; omega) vann
        have kout6ann := block_setAt koutann 1 vann
        obtain ⟨vaann, vcann, rfl⟩ := R5ann.slice
        obtain ⟨o0bann, o1bann⟩ := cells2 koutann
        obtain ⟨f0bann, f1bann⟩ := frozen2 koutann
        have ROWann := hide R6ann
        have HBann := hide hb6ann
        have KOann := hide kout6ann
        clear owann gann R5ann R6ann hb5ann hb6ann koutann kout6ann hlann hllann o0an o1an
        go_wp2_with fail
        have hst : addK r rs (k + 1) = (lann, true) := by
         rw [unhide HSTEP]
         rw [← unhide HLann, ← unhide HLan]
         simp [hle, hne]
        exact ⟨⟨k + 1, _, by omega, by go_num, by rw [hst], unhide KOann, by rw [hst]; exact unhide ROWann, unhide HBann⟩, by simp [intOf]; omega⟩
       ·clear hc0
        go_wp2_with fail
        refine (unhide CL).mono ?_
        rintro e w2 ⟨rfl, b2⟩
        clear c0 c1 c2 c3 c4 c5 c6 z0 z1
        have q2 := below_next bx b2
        have kx2 := block_kept b2 (unhide KX)
        obtain ⟨x0a, x1a, x2a, x3a, x4a, x5a, x6a⟩ := cells7 kx2
        have f2a := block_frozen kx2 2
        have kx3 := block_setAt kx2 2 (.int .i64 r.ttl)
        have kr2 := block_kept q2 (unhide KRr)
        obtain ⟨y0, y1, y2, y3, y4, y5, y6⟩ := cells7 kr2
        have gs := grown_setCell w2 ⟨wr.heap.size, 2, none⟩ (.int .i64 r.ttl)
        have bs : Below wr.heap.size wr (w2.setCell ⟨wr.heap.size, 2, none⟩ (.int .i64 r.ttl)) := q2.setCell (by show wr.heap.size ≤ wr.heap.size; omega) _
        have kr3 := block_kept bs (unhide KRr)
        obtain ⟨y0b, y1b, y2b, y3b, y4b, y5b, y6b⟩ := cells7 kr3
        obtain ⟨x0, x1, x2, x3, x4, x5, x6⟩ := cells7 kx3
        have hx3 : HasR (w2.setCell ⟨wr.heap.size, 2, none⟩ (.int .i64 r.ttl)) (.slice na rk.name.length nc) (.slice ta rk.to.length tc) (.slice xa rk.text.length xc) (.slice ia rk.nums.length ic) (⟨rk.name, rk.type, r.ttl, rk.addr, rk.to, rk.text, rk.nums⟩ : Rec) := ⟨((unhide HU).below bs).name, ((unhide HU).below bs).to, ((unhide HU).below bs).text, ((unhide HU).below bs).nums⟩
        have CM := l3cmp_has ((unhide HX).below bs) hx3 hrok (unhide HXOK)
        rw [unhide HXK] at CM
        replace CM := hide CM
        have KX3 := hide kx3
        have BS := hide bs
        clear kx2 kx3 kr2 kr3 hx3 bs gs
        go_wp2_with fail
        clear x0a x1a x2a x3a x4a x5a x6a f2a y0 y1 y2 y3 y4 y5 y6 y0b y1b y2b y3b y4b y5b y6b x0 x1 x2 x3 x4 x5 x6
        generalize w2.setCell ⟨wr.heap.size, 2, none⟩ (.int .i64 r.ttl) = w2s at *
        refine (unhide CM).mono ?_
        rintro e w3 ⟨rfl, b3⟩
        have q3 := below_next (unhide BS) b3
        have KXI := hide (block_kept b3 (unhide KX3))
        have KRI := hide (block_kept q3 (unhide KRr))
        have ROWa := hide ((unhide HROW).later q3)
        have KOa := hide (block_kept q3 hout)
        have HBa := hide (hb.trans (q3.mono (by omega)))
        have zq3 := q3.size
        obtain ⟨x0, x1, x2, x3, x4, x5, x6⟩ := cells7 (unhide KXI)
        obtain ⟨y0, y1, y2, y3, y4, y5, y6⟩ := cells7 (unhide KRI)
        obtain ⟨xsa, hxoa, hxsa⟩ := unhide ROWa
        have hxla : xsa.length = l0.length * 7 := hxoa.1
        have bya := below_alloc (w := w3) (.cells #[.slice na rk.name.length nc, .int .i64 rk.type, .int .i64 r.ttl, .int .i64 rk.addr, .slice ta rk.to.length tc, .slice xa rk.text.length xc, .slice ia rk.nums.length ic] 52)
        have kya : ((w3).alloc (.cells #[.slice na rk.name.length nc, .int .i64 rk.type, .int .i64 r.ttl, .int .i64 rk.addr, .slice ta rk.to.length tc, .slice xa rk.text.length xc, .slice ia rk.nums.length ic] 52)).heap[w3.heap.size]? = some (.cells #[.slice na rk.name.length nc, .int .i64 rk.type, .int .i64 r.ttl, .int .i64 rk.addr, .slice ta rk.to.length tc, .slice xa rk.text.length xc, .slice ia rk.nums.length ic] 52) := heap_alloc_new w3 _
        obtain ⟨o0a, o1a⟩ := cells2 (unhide KOa)
        have HXOa := hide hxoa
        have HXSa := hide hxsa
        have KYa := hide kya
        have BYa := hide bya
        have KOba := hide (block_kept bya (unhide KOa))
        have zqa := (unhide HBa).size
        have hxba := ownsRow_later hxoa bya
        have HXBa := hide hxba
        clear hxoa hxsa kya bya hxba
        go_wp2_with (at_builtin; first | (refine append_rec rfl _ _ 30 52 rfl Tryz.underlying30 _ info_rr rfl (w.heap.size + 4) _ l0.length xsa rfl (unhide HXBa) w3.heap.size (cellsR (.slice na rk.name.length nc) (.slice ta rk.to.length tc) (.slice xa rk.text.length xc) (.slice ia rk.nums.length ic) (⟨rk.name, rk.type, r.ttl, rk.addr, rk.to, rk.text, rk.nums⟩ : Rec)) rfl (unhide KYa) rfl (by simp [cellsR, Value.oneCell']) (by omega) (Nat.le_trans (Nat.le_trans zW zqa) (unhide BYa).size) ?_) | (refine append_rec rfl _ _ 30 52 rfl Tryz.underlying30 _ info_rr rfl (w.heap.size + 4) _ l0.length xsa rfl (unhide HXBa) _ (cellsR (.slice na rk.name.length nc) (.slice ta rk.to.length tc) (.slice xa rk.text.length xc) (.slice ia rk.nums.length ic) (⟨rk.name, rk.type, r.ttl, rk.addr, rk.to, rk.text, rk.nums⟩ : Rec)) rfl (heap_alloc_new _ _) rfl (by simp [cellsR, Value.oneCell']) (by omega) (Nat.le_trans (Nat.le_trans zW zqa) (unhide BYa).size) ?_))
        intro van wan owan gan
        have koutan := block_grown gan (unhide KOba) (row_type (unhide HXBa) (unhide KOba) (by decide))
        have R5an := RowS.snoc hxla (unhide HXSa) owan (show HasR w (.slice na rk.name.length nc) (.slice ta rk.to.length tc) (.slice xa rk.text.length xc) (.slice ia rk.nums.length ic) (⟨rk.name, rk.type, r.ttl, rk.addr, rk.to, rk.text, rk.nums⟩ : Rec) from ⟨(unhide HU0).name, (unhide HU0).to, (unhide HU0).text, (unhide HU0).nums⟩)
        generalize hlan : l0 ++ [(⟨rk.name, rk.type, r.ttl, rk.addr, rk.to, rk.text, rk.nums⟩ : Rec)] = lan at R5an
        have HLan := hide hlan
        have hllan : lan.length = l0.length + 1 := by rw [← hlan, List.length_append]; rfl
        have hllean : lan.length ≤ l0.length + 1 := Nat.le_of_eq hllan
        have R6an := R5an.off (grown_setCell wan ⟨w.heap.size + 3, 1, none⟩ van) (by show w.heap.size + 3 < w.heap.size + 4; omega)
        have hb5an : Below (w.heap.size + 3) W wan := ((unhide HBa).trans ((unhide BYa).mono (by omega))).grown gan (by have := (unhide HBa).size; have := (unhide BYa).size; omega) (fun q hq => by have := (World.ownsRow.lt (unhide HXBa) q hq).1; omega)
        have hb6an : Below (w.heap.size + 3) W (wan.setCell ⟨w.heap.size + 3, 1, none⟩ van) := hb5an.setCell (by show w.heap.size + 3 ≤ w.heap.size + 3; omega) van
        have kout6an := block_setAt koutan 1 van
        obtain ⟨vaan, vcan, rfl⟩ := R5an.slice
        obtain ⟨o0ban, o1ban⟩ := cells2 koutan
        obtain ⟨f0ban, f1ban⟩ := frozen2 koutan
        have ROWan := hide R6an
        have HBan := hide hb6an
        have KOan := hide kout6an
        clear owan gan R5an R6an hb5an hb6an koutan kout6an hlan hllan o0a o1a
        go_wp2_with fail
        have hst : addK r rs (k + 1) = (lan, false) := by
         rw [unhide HSTEP]
         rw [← unhide HLan]
         simp [hle, hne]
        exact ⟨⟨k + 1, _, by omega, by go_num, by rw [hst], unhide KOan, by rw [hst]; exact unhide ROWan, unhide HBan⟩, by simp [intOf]; omega⟩
     | true =>
      by_cases hc0 : c = 0
      ·subst hc0
       go_wp2_with fail
       refine (unhide CL).mono ?_
       rintro e w2 ⟨rfl, b2⟩
       clear c0 c1 c2 c3 c4 c5 c6 z0 z1
       have q2 := below_next bx b2
       have kx2 := block_kept b2 (unhide KX)
       obtain ⟨x0a, x1a, x2a, x3a, x4a, x5a, x6a⟩ := cells7 kx2
       have f2a := block_frozen kx2 2
       have kx3 := block_setAt kx2 2 (.int .i64 r.ttl)
       have kr2 := block_kept q2 (unhide KRr)
       obtain ⟨y0, y1, y2, y3, y4, y5, y6⟩ := cells7 kr2
       have gs := grown_setCell w2 ⟨wr.heap.size, 2, none⟩ (.int .i64 r.ttl)
       have bs : Below wr.heap.size wr (w2.setCell ⟨wr.heap.size, 2, none⟩ (.int .i64 r.ttl)) := q2.setCell (by show wr.heap.size ≤ wr.heap.size; omega) _
       have kr3 := block_kept bs (unhide KRr)
       obtain ⟨y0b, y1b, y2b, y3b, y4b, y5b, y6b⟩ := cells7 kr3
       obtain ⟨x0, x1, x2, x3, x4, x5, x6⟩ := cells7 kx3
       have hx3 : HasR (w2.setCell ⟨wr.heap.size, 2, none⟩ (.int .i64 r.ttl)) (.slice na rk.name.length nc) (.slice ta rk.to.length tc) (.slice xa rk.text.length xc) (.slice ia rk.nums.length ic) (⟨rk.name, rk.type, r.ttl, rk.addr, rk.to, rk.text, rk.nums⟩ : Rec) := ⟨((unhide HU).below bs).name, ((unhide HU).below bs).to, ((unhide HU).below bs).text, ((unhide HU).below bs).nums⟩
       have CM := l3cmp_has ((unhide HX).below bs) hx3 hrok (unhide HXOK)
       rw [unhide HXK] at CM
       replace CM := hide CM
       have KX3 := hide kx3
       have BS := hide bs
       clear kx2 kx3 kr2 kr3 hx3 bs gs
       go_wp2_with fail
       clear x0a x1a x2a x3a x4a x5a x6a f2a y0 y1 y2 y3 y4 y5 y6 y0b y1b y2b y3b y4b y5b y6b x0 x1 x2 x3 x4 x5 x6
       generalize w2.setCell ⟨wr.heap.size, 2, none⟩ (.int .i64 r.ttl) = w2s at *
       refine (unhide CM).mono ?_
       rintro e w3 ⟨rfl, b3⟩
       have q3 := below_next (unhide BS) b3
       have KXI := hide (block_kept b3 (unhide KX3))
       have KRI := hide (block_kept q3 (unhide KRr))
       have ROWa := hide ((unhide HROW).later q3)
       have KOa := hide (block_kept q3 hout)
       have HBa := hide (hb.trans (q3.mono (by omega)))
       have zq3 := q3.size
       obtain ⟨x0, x1, x2, x3, x4, x5, x6⟩ := cells7 (unhide KXI)
       obtain ⟨y0, y1, y2, y3, y4, y5, y6⟩ := cells7 (unhide KRI)
       go_wp2_with fail
       have hst : addK r rs (k + 1) = (l0, true) := by
        rw [unhide HSTEP]
        skip
        simp
       exact ⟨⟨k + 1, _, by omega, by go_num, by rw [hst], unhide KOa, by rw [hst]; exact unhide ROWa, unhide HBa⟩, by simp [intOf]; omega⟩
      ·have hne : ¬ c = 0 := hc0
       have hneb : (c != 0) = true := by rw [bne_iff_ne]; exact hc0
       clear hc0
       go_wp2_with fail
       refine (unhide CL).mono ?_
       rintro e w2 ⟨rfl, b2⟩
       clear c0 c1 c2 c3 c4 c5 c6 z0 z1
       have q2 := below_next bx b2
       have kx2 := block_kept b2 (unhide KX)
       obtain ⟨x0a, x1a, x2a, x3a, x4a, x5a, x6a⟩ := cells7 kx2
       have f2a := block_frozen kx2 2
       have kx3 := block_setAt kx2 2 (.int .i64 r.ttl)
       have kr2 := block_kept q2 (unhide KRr)
       obtain ⟨y0, y1, y2, y3, y4, y5, y6⟩ := cells7 kr2
       have gs := grown_setCell w2 ⟨wr.heap.size, 2, none⟩ (.int .i64 r.ttl)
       have bs : Below wr.heap.size wr (w2.setCell ⟨wr.heap.size, 2, none⟩ (.int .i64 r.ttl)) := q2.setCell (by show wr.heap.size ≤ wr.heap.size; omega) _
       have kr3 := block_kept bs (unhide KRr)
       obtain ⟨y0b, y1b, y2b, y3b, y4b, y5b, y6b⟩ := cells7 kr3
       obtain ⟨x0, x1, x2, x3, x4, x5, x6⟩ := cells7 kx3
       have hx3 : HasR (w2.setCell ⟨wr.heap.size, 2, none⟩ (.int .i64 r.ttl)) (.slice na rk.name.length nc) (.slice ta rk.to.length tc) (.slice xa rk.text.length xc) (.slice ia rk.nums.length ic) (⟨rk.name, rk.type, r.ttl, rk.addr, rk.to, rk.text, rk.nums⟩ : Rec) := ⟨((unhide HU).below bs).name, ((unhide HU).below bs).to, ((unhide HU).below bs).text, ((unhide HU).below bs).nums⟩
       have CM := l3cmp_has ((unhide HX).below bs) hx3 hrok (unhide HXOK)
       rw [unhide HXK] at CM
       replace CM := hide CM
       have KX3 := hide kx3
       have BS := hide bs
       clear kx2 kx3 kr2 kr3 hx3 bs gs
       go_wp2_with fail
       clear x0a x1a x2a x3a x4a x5a x6a f2a y0 y1 y2 y3 y4 y5 y6 y0b y1b y2b y3b y4b y5b y6b x0 x1 x2 x3 x4 x5 x6
       generalize w2.setCell ⟨wr.heap.size, 2, none⟩ (.int .i64 r.ttl) = w2s at *
       refine (unhide CM).mono ?_
       rintro e w3 ⟨rfl, b3⟩
       have q3 := below_next (unhide BS) b3
       have KXI := hide (block_kept b3 (unhide KX3))
       have KRI := hide (block_kept q3 (unhide KRr))
       have ROWa := hide ((unhide HROW).later q3)
       have KOa := hide (block_kept q3 hout)
       have HBa := hide (hb.trans (q3.mono (by omega)))
       have zq3 := q3.size
       obtain ⟨x0, x1, x2, x3, x4, x5, x6⟩ := cells7 (unhide KXI)
       obtain ⟨y0, y1, y2, y3, y4, y5, y6⟩ := cells7 (unhide KRI)
       obtain ⟨xsa, hxoa, hxsa⟩ := unhide ROWa
       have hxla : xsa.length = l0.length * 7 := hxoa.1
       have bya := below_alloc (w := w3) (.cells #[.slice na rk.name.length nc, .int .i64 rk.type, .int .i64 r.ttl, .int .i64 rk.addr, .slice ta rk.to.length tc, .slice xa rk.text.length xc, .slice ia rk.nums.length ic] 52)
       have kya : ((w3).alloc (.cells #[.slice na rk.name.length nc, .int .i64 rk.type, .int .i64 r.ttl, .int .i64 rk.addr, .slice ta rk.to.length tc, .slice xa rk.text.length xc, .slice ia rk.nums.length ic] 52)).heap[w3.heap.size]? = some (.cells #[.slice na rk.name.length nc, .int .i64 rk.type, .int .i64 r.ttl, .int .i64 rk.addr, .slice ta rk.to.length tc, .slice xa rk.text.length xc, .slice ia rk.nums.length ic] 52) := heap_alloc_new w3 _
       obtain ⟨o0a, o1a⟩ := cells2 (unhide KOa)
       have HXOa := hide hxoa
       have HXSa := hide hxsa
       have KYa := hide kya
       have BYa := hide bya
       have KOba := hide (block_kept bya (unhide KOa))
       have zqa := (unhide HBa).size
       have hxba := ownsRow_later hxoa bya
       have HXBa := hide hxba
       clear hxoa hxsa kya bya hxba
       go_wp2_with (at_builtin; first | (refine append_rec rfl _ _ 30 52 rfl Tryz.underlying30 _ info_rr rfl (w.heap.size + 4) _ l0.length xsa rfl (unhide HXBa) w3.heap.size (cellsR (.slice na rk.name.length nc) (.slice ta rk.to.length tc) (.slice xa rk.text.length xc) (.slice ia rk.nums.length ic) (⟨rk.name, rk.type, r.ttl, rk.addr, rk.to, rk.text, rk.nums⟩ : Rec)) rfl (unhide KYa) rfl (by simp [cellsR, Value.oneCell']) (by omega) (Nat.le_trans (Nat.le_trans zW zqa) (unhide BYa).size) ?_) | (refine append_rec rfl _ _ 30 52 rfl Tryz.underlying30 _ info_rr rfl (w.heap.size + 4) _ l0.length xsa rfl (unhide HXBa) _ (cellsR (.slice na rk.name.length nc) (.slice ta rk.to.length tc) (.slice xa rk.text.length xc) (.slice ia rk.nums.length ic) (⟨rk.name, rk.type, r.ttl, rk.addr, rk.to, rk.text, rk.nums⟩ : Rec)) rfl (heap_alloc_new _ _) rfl (by simp [cellsR, Value.oneCell']) (by omega) (Nat.le_trans (Nat.le_trans zW zqa) (unhide BYa).size) ?_))
       intro van wan owan gan
       have koutan := block_grown gan (unhide KOba) (row_type (unhide HXBa) (unhide KOba) (by decide))
       have R5an := RowS.snoc hxla (unhide HXSa) owan (show HasR w (.slice na rk.name.length nc) (.slice ta rk.to.length tc) (.slice xa rk.text.length xc) (.slice ia rk.nums.length ic) (⟨rk.name, rk.type, r.ttl, rk.addr, rk.to, rk.text, rk.nums⟩ : Rec) from ⟨(unhide HU0).name, (unhide HU0).to, (unhide HU0).text, (unhide HU0).nums⟩)
       generalize hlan : l0 ++ [(⟨rk.name, rk.type, r.ttl, rk.addr, rk.to, rk.text, rk.nums⟩ : Rec)] = lan at R5an
       have HLan := hide hlan
       have hllan : lan.length = l0.length + 1 := by rw [← hlan, List.length_append]; rfl
       have hllean : lan.length ≤ l0.length + 1 := Nat.le_of_eq hllan
       have R6an := R5an.off (grown_setCell wan ⟨w.heap.size + 3, 1, none⟩ van) (by show w.heap.size + 3 < w.heap.size + 4; omega)
       have hb5an : Below (w.heap.size + 3) W wan := ((unhide HBa).trans ((unhide BYa).mono (by omega))).grown gan (by have := (unhide HBa).size; have := (unhide BYa).size; omega) (fun q hq => by have := (World.ownsRow.lt (unhide HXBa) q hq).1; omega)
       have hb6an : Below (w.heap.size + 3) W (wan.setCell ⟨w.heap.size + 3, 1, none⟩ van) := hb5an.setCell (by show w.heap.size + 3 ≤ w.heap.size + 3; omega) van
       have kout6an := block_setAt koutan 1 van
       obtain ⟨vaan, vcan, rfl⟩ := R5an.slice
       obtain ⟨o0ban, o1ban⟩ := cells2 koutan
       obtain ⟨f0ban, f1ban⟩ := frozen2 koutan
       have ROWan := hide R6an
       have HBan := hide hb6an
       have KOan := hide kout6an
       clear owan gan R5an R6an hb5an hb6an koutan kout6an hlan hllan o0a o1a
       go_wp2_with fail
       have hst : addK r rs (k + 1) = (lan, true) := by
        rw [unhide HSTEP]
        rw [← unhide HLan]
        simp [hne]
       exact ⟨⟨k + 1, _, by omega, by go_num, by rw [hst], unhide KOan, by rw [hst]; exact unhide ROWan, unhide HBan⟩, by simp [intOf]; omega⟩
    ·have ety : (rk.type == r.type) = false := by rw [beq_eq_false_iff_ne]; exact hty
     have hxk : upd r rk = rk := by unfold upd; rw [if_neg (fun q => hty q.2)]
     rw [hxk] at HSTEP HXOK
     have HXK : Hid (cmpR r rk = c) := hide (by rw [← hxk, upd_cmp2]; exact unhide HC0)
     clear hxk
     clear hz hty
     cases p0 with
     | false =>
      by_cases hc0 : c = 0
      ·subst hc0
       go_wp2_with fail
       refine (unhide CL).mono ?_
       rintro e w2 ⟨rfl, b2⟩
       clear c0 c1 c2 c3 c4 c5 c6 z0 z1
       have q2 := below_next bx b2
       obtain ⟨x0, x1, x2, x3, x4, x5, x6⟩ := cells7 (block_kept b2 (unhide KX))
       obtain ⟨y0, y1, y2, y3, y4, y5, y6⟩ := cells7 (block_kept q2 (unhide KRr))
       have hx3 : HasR w2 (.slice na rk.name.length nc) (.slice ta rk.to.length tc) (.slice xa rk.text.length xc) (.slice ia rk.nums.length ic) rk := (unhide HU).below q2
       have CM := l3cmp_has ((unhide HX).below q2) hx3 hrok (unhide HXOK)
       rw [unhide HXK] at CM
       replace CM := hide CM
       clear hx3
       go_wp2_with fail
       clear x0 x1 x2 x3 x4 x5 x6 y0 y1 y2 y3 y4 y5 y6
       refine (unhide CM).mono ?_
       rintro e w3 ⟨rfl, b3⟩
       have q3 := below_next q2 b3
       have KXI := hide (block_kept b3 (block_kept b2 (unhide KX)))
       have KRI := hide (block_kept q3 (unhide KRr))
       have ROWa := hide ((unhide HROW).later q3)
       have KOa := hide (block_kept q3 hout)
       have HBa := hide (hb.trans (q3.mono (by omega)))
       have zq3 := q3.size
       obtain ⟨x0, x1, x2, x3, x4, x5, x6⟩ := cells7 (unhide KXI)
       obtain ⟨y0, y1, y2, y3, y4, y5, y6⟩ := cells7 (unhide KRI)
       obtain ⟨xsa, hxoa, hxsa⟩ := unhide ROWa
       have hxla : xsa.length = l0.length * 7 := hxoa.1
       have bya := below_alloc (w := w3) (.cells #[.slice una r.name.length unc, .int .i64 r.type, .int .i64 r.ttl, .int .i64 r.addr, .slice uta r.to.length utc, .slice uxa r.text.length uxc, .slice uia r.nums.length uic] 52)
       have kya : ((w3).alloc (.cells #[.slice una r.name.length unc, .int .i64 r.type, .int .i64 r.ttl, .int .i64 r.addr, .slice uta r.to.length utc, .slice uxa r.text.length uxc, .slice uia r.nums.length uic] 52)).heap[w3.heap.size]? = some (.cells #[.slice una r.name.length unc, .int .i64 r.type, .int .i64 r.ttl, .int .i64 r.addr, .slice uta r.to.length utc, .slice uxa r.text.length uxc, .slice uia r.nums.length uic] 52) := heap_alloc_new w3 _
       obtain ⟨o0a, o1a⟩ := cells2 (unhide KOa)
       have HXOa := hide hxoa
       have HXSa := hide hxsa
       have KYa := hide kya
       have BYa := hide bya
       have KOba := hide (block_kept bya (unhide KOa))
       have zqa := (unhide HBa).size
       have hxba := ownsRow_later hxoa bya
       have HXBa := hide hxba
       clear hxoa hxsa kya bya hxba
       go_wp2_with (at_builtin; first | (refine append_rec rfl _ _ 30 52 rfl Tryz.underlying30 _ info_rr rfl (w.heap.size + 4) _ l0.length xsa rfl (unhide HXBa) w3.heap.size (cellsR (.slice una r.name.length unc) (.slice uta r.to.length utc) (.slice uxa r.text.length uxc) (.slice uia r.nums.length uic) r) rfl (unhide KYa) rfl (by simp [cellsR, Value.oneCell']) (by omega) (Nat.le_trans (Nat.le_trans zW zqa) (unhide BYa).size) ?_) | (refine append_rec rfl _ _ 30 52 rfl Tryz.underlying30 _ info_rr rfl (w.heap.size + 4) _ l0.length xsa rfl (unhide HXBa) _ (cellsR (.slice una r.name.length unc) (.slice uta r.to.length utc) (.slice uxa r.text.length uxc) (.slice uia r.nums.length uic) r) rfl (heap_alloc_new _ _) rfl (by simp [cellsR, Value.oneCell']) (by omega) (Nat.le_trans (Nat.le_trans zW zqa) (unhide BYa).size) ?_))
       intro van wan owan gan
       have koutan := block_grown gan (unhide KOba) (row_type (unhide HXBa) (unhide KOba) (by decide))
       have R5an := RowS.snoc hxla (unhide HXSa) owan (unhide HX0)
       generalize hlan : l0 ++ [r] = lan at R5an
       have HLan := hide hlan
       have hllan : lan.length = l0.length + 1 := by rw [← hlan, List.length_append]; rfl
       have hllean : lan.length ≤ l0.length + 1 := Nat.le_of_eq hllan
       have R6an := R5an.off (grown_setCell wan ⟨w.heap.size + 3, 1, none⟩ van) (by show w.heap.size + 3 < w.heap.size + 4; omega)
       have hb5an : Below (w.heap.size + 3) W wan := ((unhide HBa).trans ((unhide BYa).mono (by omega))).grown gan (by have := (unhide HBa).size; have := (unhide BYa).size; omega) (fun q hq => by have := (World.ownsRow.lt (unhide HXBa) q hq).1; omega)
       have hb6an : Below (w.heap.size + 3) W (wan.setCell ⟨w.heap.size + 3, 1, none⟩ van) := hb5an.setCell (by show w.heap.size + 3 ≤ w.heap.size + 3; omega) van
       have kout6an := block_setAt koutan 1 van
       obtain ⟨vaan, vcan, rfl⟩ := R5an.slice
       obtain ⟨o0ban, o1ban⟩ := cells2 koutan
       obtain ⟨f0ban, f1ban⟩ := frozen2 koutan
       have ROWan := hide R6an
       have HBan := hide hb6an
       have KOan := hide kout6an
       clear owan gan R5an R6an hb5an hb6an koutan kout6an hlan hllan o0a o1a
       go_wp2_with fail
       have hst : addK r rs (k + 1) = (lan, true) := by
        rw [unhide HSTEP]
        rw [← unhide HLan]
        simp
       exact ⟨⟨k + 1, _, by omega, by go_num, by rw [hst], unhide KOan, by rw [hst]; exact unhide ROWan, unhide HBan⟩, by simp [intOf]; omega⟩
      ·have hne : ¬ c = 0 := hc0
       have hneb : (c != 0) = true := by rw [bne_iff_ne]; exact hc0
       by_cases hle : c ≤ 0
       ·clear hc0
        go_wp2_with fail
        refine (unhide CL).mono ?_
        rintro e w2 ⟨rfl, b2⟩
        clear c0 c1 c2 c3 c4 c5 c6 z0 z1
        have q2 := below_next bx b2
        obtain ⟨x0, x1, x2, x3, x4, x5, x6⟩ := cells7 (block_kept b2 (unhide KX))
        obtain ⟨y0, y1, y2, y3, y4, y5, y6⟩ := cells7 (block_kept q2 (unhide KRr))
        have hx3 : HasR w2 (.slice na rk.name.length nc) (.slice ta rk.to.length tc) (.slice xa rk.text.length xc) (.slice ia rk.nums.length ic) rk := (unhide HU).below q2
        have CM := l3cmp_has ((unhide HX).below q2) hx3 hrok (unhide HXOK)
        rw [unhide HXK] at CM
        replace CM := hide CM
        clear hx3
        go_wp2_with fail
        clear x0 x1 x2 x3 x4 x5 x6 y0 y1 y2 y3 y4 y5 y6
        refine (unhide CM).mono ?_
        rintro e w3 ⟨rfl, b3⟩
        have q3 := below_next q2 b3
        have KXI := hide (block_kept b3 (block_kept b2 (unhide KX)))
        have KRI := hide (block_kept q3 (unhide KRr))
        have ROWa := hide ((unhide HROW).later q3)
        have KOa := hide (block_kept q3 hout)
        have HBa := hide (hb.trans (q3.mono (by omega)))
        have zq3 := q3.size
        obtain ⟨x0, x1, x2, x3, x4, x5, x6⟩ := cells7 (unhide KXI)
        obtain ⟨y0, y1, y2, y3, y4, y5, y6⟩ := cells7 (unhide KRI)
        obtain ⟨xsa, hxoa, hxsa⟩ := unhide ROWa
        have hxla : xsa.length = l0.length * 7 := hxoa.1
        have bya := below_alloc (w := w3) (.cells #[.slice una r.name.length unc, .int .i64 r.type, .int .i64 r.ttl, .int .i64 r.addr, .slice uta r.to.length utc, .slice uxa r.text.length uxc, .slice uia r.nums.length uic] 52)
        have kya : ((w3).alloc (.cells #[.slice una r.name.length unc, .int .i64 r.type, .int .i64 r.ttl, .int .i64 r.addr, .slice uta r.to.length utc, .slice uxa r.text.length uxc, .slice uia r.nums.length uic] 52)).heap[w3.heap.size]? = some (.cells #[.slice una r.name.length unc, .int .i64 r.type, .int .i64 r.ttl, .int .i64 r.addr, .slice uta r.to.length utc, .slice uxa r.text.length uxc, .slice uia r.nums.length uic] 52) := heap_alloc_new w3 _
        obtain ⟨o0a, o1a⟩ := cells2 (unhide KOa)
        have HXOa := hide hxoa
        have HXSa := hide hxsa
        have KYa := hide kya
        have BYa := hide bya
        have KOba := hide (block_kept bya (unhide KOa))
        have zqa := (unhide HBa).size
        have hxba := ownsRow_later hxoa bya
        have HXBa := hide hxba
        clear hxoa hxsa kya bya hxba
        go_wp2_with (at_builtin; first | (refine append_rec rfl _ _ 30 52 rfl Tryz.underlying30 _ info_rr rfl (w.heap.size + 4) _ l0.length xsa rfl (unhide HXBa) w3.heap.size (cellsR (.slice una r.name.length unc) (.slice uta r.to.length utc) (.slice uxa r.text.length uxc) (.slice uia r.nums.length uic) r) rfl (unhide KYa) rfl (by simp [cellsR, Value.oneCell']) (by omega) (Nat.le_trans (Nat.le_trans zW zqa) (unhide BYa).size) ?_) | (refine append_rec rfl _ _ 30 52 rfl Tryz.underlying30 _ info_rr rfl (w.heap.size + 4) _ l0.length xsa rfl (unhide HXBa) _ (cellsR (.slice una r.name.length unc) (.slice uta r.to.length utc) (.slice uxa r.text.length uxc) (.slice uia r.nums.length uic) r) rfl (heap_alloc_new _ _) rfl (by simp [cellsR, Value.oneCell']) (by omega) (Nat.le_trans (Nat.le_trans zW zqa) (unhide BYa).size) ?_))
        intro van wan owan gan
        have koutan := block_grown gan (unhide KOba) (row_type (unhide HXBa) (unhide KOba) (by decide))
        have R5an := RowS.snoc hxla (unhide HXSa) owan (unhide HX0)
        generalize hlan : l0 ++ [r] = lan at R5an
        have HLan := hide hlan
        have hllan : lan.length = l0.length + 1 := by rw [← hlan, List.length_append]; rfl
        have hllean : lan.length ≤ l0.length + 1 := Nat.le_of_eq hllan
        have R6an := R5an.off (grown_setCell wan ⟨w.heap.size + 3, 1, none⟩ van) (by show w.heap.size + 3 < w.heap.size + 4; omega)
        have hb5an : Below (w.heap.size + 3) W wan := ((unhide HBa).trans ((unhide BYa).mono (by omega))).grown gan (by have := (unhide HBa).size; have := (unhide BYa).size; omega) (fun q hq => by have := (World.ownsRow.lt (unhide HXBa) q hq).1; omega)
        have hb6an : Below (w.heap.size + 3) W (wan.setCell ⟨w.heap.size + 3, 1, none⟩ van) := hb5an.setCell (by show w.heap.size + 3 ≤ w.heap.size + 3; omega) van
        have kout6an := block_setAt koutan 1 van
        have kx5an := block_grown gan (block_kept (unhide BYa) (unhide KXI)) (fun e => by have := (World.ownsRow.lt (unhide HXW) _ e).2; omega)
        have kx6an := block_grown (grown_setCell wan ⟨w.heap.size + 3, 1, none⟩ van) kx5an (fun e => by simp only [Option.some.injEq] at e; omega)
        obtain ⟨vaan, vcan, rfl⟩ := R5an.slice
        obtain ⟨o0ban, o1ban⟩ := cells2 koutan
        obtain ⟨f0ban, f1ban⟩ := frozen2 koutan
        have ROWan := hide R6an
        have HBan := hide hb6an
        have KOan := hide kout6an
        have KXan := hide kx6an
        obtain ⟨x0, x1, x2, x3, x4, x5, x6⟩ := cells7 kx6an
        clear kx5an kx6an
        clear owan gan R5an R6an hb5an hb6an koutan kout6an hlan hllan o0a o1a
        have KRJ := hide True.intro
        obtain ⟨xsan, hxoan, hxsan⟩ := unhide ROWan
        have hxlan : xsan.length = lan.length * 7 := hxoan.1
        have byan := below_alloc (w := (wan.setCell ⟨w.heap.size + 3, 1, none⟩ (.slice vaan lan.length vcan))) (.cells #[.slice na rk.name.length nc, .int .i64 rk.type, .int .i64 rk.ttl, .int .i64 rk.addr, .slice ta rk.to.length tc, .slice xa rk.text.length xc, .slice ia rk.nums.length ic] 52)
        have kyan : (((wan.setCell ⟨w.heap.size + 3, 1, none⟩ (.slice vaan lan.length vcan))).alloc (.cells #[.slice na rk.name.length nc, .int .i64 rk.type, .int .i64 rk.ttl, .int .i64 rk.addr, .slice ta rk.to.length tc, .slice xa rk.text.length xc, .slice ia rk.nums.length ic] 52)).heap[wan.heap.size]? = some (.cells #[.slice na rk.name.length nc, .int .i64 rk.type, .int .i64 rk.ttl, .int .i64 rk.addr, .slice ta rk.to.length tc, .slice xa rk.text.length xc, .slice ia rk.nums.length ic] 52) := (by have := heap_alloc_new (wan.setCell ⟨w.heap.size + 3, 1, none⟩ (.slice vaan lan.length vcan)) (.cells #[.slice na rk.name.length nc, .int .i64 rk.type, .int .i64 rk.ttl, .int .i64 rk.addr, .slice ta rk.to.length tc, .slice xa rk.text.length xc, .slice ia rk.nums.length ic] 52); rwa [World.size_setCell] at this)
        obtain ⟨o0an, o1an⟩ := cells2 (unhide KOan)
        have HXOan := hide hxoan
        have HXSan := hide hxsan
        have KYan := hide kyan
        have BYan := hide byan
        have KOban := hide (block_kept byan (unhide KOan))
        have zqan := (unhide HBan).size
        have hxban := ownsRow_later hxoan byan
        have HXBan := hide hxban
        clear hxoan hxsan kyan byan hxban
        go_wp2_with (at_builtin; first | (refine append_rec rfl _ _ 30 52 rfl Tryz.underlying30 _ info_rr rfl (w.heap.size + 4) _ lan.length xsan rfl (unhide HXBan) wan.heap.size (cellsR (.slice na rk.name.length nc) (.slice ta rk.to.length tc) (.slice xa rk.text.length xc) (.slice ia rk.nums.length ic) rk) rfl (unhide KYan) rfl (by simp [cellsR, Value.oneCell']) (by omega) (Nat.le_trans (Nat.le_trans zW zqan) (unhide BYan).size) ?_) | (refine append_rec rfl _ _ 30 52 rfl Tryz.underlying30 _ info_rr rfl (w.heap.size + 4) _ lan.length xsan rfl (unhide HXBan) _ (cellsR (.slice na rk.name.length nc) (.slice ta rk.to.length tc) (.slice xa rk.text.length xc) (.slice ia rk.nums.length ic) rk) rfl (heap_alloc_new _ _) rfl (by simp [cellsR, Value.oneCell']) (by omega) (Nat.le_trans (Nat.le_trans zW zqan) (unhide BYan).size) ?_))
        intro vann wann owann gann
        have koutann := block_grown gann (unhide KOban) (row_type (unhide HXBan) (unhide KOban) (by decide))
        have R5ann := RowS.snoc hxlan (unhide HXSan) owann (show HasR w (.slice na rk.name.length nc) (.slice ta rk.to.length tc) (.slice xa rk.text.length xc) (.slice ia rk.nums.length ic) rk from ⟨(unhide HU0).name, (unhide HU0).to, (unhide HU0).text, (unhide HU0).nums⟩)
        generalize hlann : lan ++ [rk] = lann at R5ann
        have HLann := hide hlann
        have hllann : lann.length = lan.length + 1 := by rw [← hlann, List.length_append]; rfl
        have hlleann : lann.length ≤ lan.length + 1 := Nat.le_of_eq hllann
        have R6ann := R5ann.off (grown_setCell wann ⟨w.heap.size + 3, 1, none⟩ vann) (by show w.heap.size + 3 < w.heap.size + 4; omega)
        have hb5ann : Below (w.heap.size + 3) W wann := ((unhide HBan).trans ((unhide BYan).mono (by omega))).grown gann (by have := (unhide HBan).size; have := (unhide BYan).size; omega) (fun q hq => by have := (World.ownsRow.lt (unhide HXBan) q hq).1; omega)
        have hb6ann : Below (w.heap.size + 3) W (wann.setCell ⟨w.heap.size + 3, 1, none⟩ vann) := hb5ann.setCell (by show w.heap.size + 3 ≤ w.heap.size + 3; omega) vann
        have kout6ann := block_setAt koutann 1 vann
        obtain ⟨vaann, vcann, rfl⟩ := R5ann.slice
        obtain ⟨o0bann, o1bann⟩ := cells2 koutann
        obtain ⟨f0bann, f1bann⟩ := frozen2 koutann
        have ROWann := hide R6ann
        have HBann := hide hb6ann
        have KOann := hide kout6ann
        clear owann gann R5ann R6ann hb5ann hb6ann koutann kout6ann hlann hllann o0an o1an
        go_wp2_with fail
        have hst : addK r rs (k + 1) = (lann, true) := by
         rw [unhide HSTEP]
         rw [← unhide HLann, ← unhide HLan]
         simp [hle, hne]
        exact ⟨⟨k + 1, _, by omega, by go_num, by rw [hst], unhide KOann, by rw [hst]; exact unhide ROWann, unhide HBann⟩, by simp [intOf]; omega⟩
       ·clear hc0
        go_wp2_with fail
        refine (unhide CL).mono ?_
        rintro e w2 ⟨rfl, b2⟩
        clear c0 c1 c2 c3 c4 c5 c6 z0 z1
        have q2 := below_next bx b2
        obtain ⟨x0, x1, x2, x3, x4, x5, x6⟩ := cells7 (block_kept b2 (unhide KX))
        obtain ⟨y0, y1, y2, y3, y4, y5, y6⟩ := cells7 (block_kept q2 (unhide KRr))
        have hx3 : HasR w2 (.slice na rk.name.length nc) (.slice ta rk.to.length tc) (.slice xa rk.text.length xc) (.slice ia rk.nums.length ic) rk := (unhide HU).below q2
        have CM := l3cmp_has ((unhide HX).below q2) hx3 hrok (unhide HXOK)
        rw [unhide HXK] at CM
        replace CM := hide CM
        clear hx3
        go_wp2_with fail
        clear x0 x1 x2 x3 x4 x5 x6 y0 y1 y2 y3 y4 y5 y6
        refine (unhide CM).mono ?_
        rintro e w3 ⟨rfl, b3⟩
        have q3 := below_next q2 b3
        have KXI := hide (block_kept b3 (block_kept b2 (unhide KX)))
        have KRI := hide (block_kept q3 (unhide KRr))
        have ROWa := hide ((unhide HROW).later q3)
        have KOa := hide (block_kept q3 hout)
        have HBa := hide (hb.trans (q3.mono (by omega)))
        have zq3 := q3.size
        obtain ⟨x0, x1, x2, x3, x4, x5, x6⟩ := cells7 (unhide KXI)
        obtain ⟨y0, y1, y2, y3, y4, y5, y6⟩ := cells7 (unhide KRI)
        obtain ⟨xsa, hxoa, hxsa⟩ := unhide ROWa
        have hxla : xsa.length = l0.length * 7 := hxoa.1
        have bya := below_alloc (w := w3) (.cells #[.slice na rk.name.length nc, .int .i64 rk.type, .int .i64 rk.ttl, .int .i64 rk.addr, .slice ta rk.to.length tc, .slice xa rk.text.length xc, .slice ia rk.nums.length ic] 52)
        have kya : ((w3).alloc (.cells #[.slice na rk.name.length nc, .int .i64 rk.type, .int .i64 rk.ttl, .int .i64 rk.addr, .slice ta rk.to.length tc, .slice xa rk.text.length xc, .slice ia rk.nums.length ic] 52)).heap[w3.heap.size]? = some (.cells #[.slice na rk.name.length nc, .int .i64 rk.type, .int .i64 rk.ttl, .int .i64 rk.addr, .slice ta rk.to.length tc, .slice xa rk.text.length xc, .slice ia rk.nums.length ic] 52) := heap_alloc_new w3 _
        obtain ⟨o0a, o1a⟩ := cells2 (unhide KOa)
        have HXOa := hide hxoa
        have HXSa := hide hxsa
        have KYa := hide kya
        have BYa := hide bya
        have KOba := hide (block_kept bya (unhide KOa))
        have zqa := (unhide HBa).size
        have hxba := ownsRow_later hxoa bya
        have HXBa := hide hxba
        clear hxoa hxsa kya bya hxba
        go_wp2_with (at_builtin; first | (refine append_rec rfl _ _ 30 52 rfl Tryz.underlying30 _ info_rr rfl (w.heap.size + 4) _ l0.length xsa rfl (unhide HXBa) w3.heap.size (cellsR (.slice na rk.name.length nc) (.slice ta rk.to.length tc) (.slice xa rk.text.length xc) (.slice ia rk.nums.length ic) rk) rfl (unhide KYa) rfl (by simp [cellsR, Value.oneCell']) (by omega) (Nat.le_trans (Nat.le_trans zW zqa) (unhide BYa).size) ?_) | (refine append_rec rfl _ _ 30 52 rfl Tryz.underlying30 _ info_rr rfl (w.heap.size + 4) _ l0.length xsa rfl (unhide HXBa) _ (cellsR (.slice na rk.name.length nc) (.slice ta rk.to.length tc) (.slice xa rk.text.length xc) (.slice ia rk.nums.length ic) rk) rfl (heap_alloc_new _ _) rfl (by simp [cellsR, Value.oneCell']) (by omega) (Nat.le_trans (Nat.le_trans zW zqa) (unhide BYa).size) ?_))
        intro van wan owan gan
        have koutan := block_grown gan (unhide KOba) (row_type (unhide HXBa) (unhide KOba) (by decide))
        have R5an := RowS.snoc hxla (unhide HXSa) owan (show HasR w (.slice na rk.name.length nc) (.slice ta rk.to.length tc) (.slice xa rk.text.length xc) (.slice ia rk.nums.length ic) rk from ⟨(unhide HU0).name, (unhide HU0).to, (unhide HU0).text, (unhide HU0).nums⟩)
        generalize hlan : l0 ++ [rk] = lan at R5an
        have HLan := hide hlan
        have hllan : lan.length = l0.length + 1 := by rw [← hlan, List.length_append]; rfl
        have hllean : lan.length ≤ l0.length + 1 := Nat.le_of_eq hllan
        have R6an := R5an.off (grown_setCell wan ⟨w.heap.size + 3, 1, none⟩ van) (by show w.heap.size + 3 < w.heap.size + 4; omega)
        have hb5an : Below (w.heap.size + 3) W wan := ((unhide HBa).trans ((unhide BYa).mono (by omega))).grown gan (by have := (unhide HBa).size; have := (unhide BYa).size; omega) (fun q hq => by have := (World.ownsRow.lt (unhide HXBa) q hq).1; omega)
        have hb6an : Below (w.heap.size + 3) W (wan.setCell ⟨w.heap.size + 3, 1, none⟩ van) := hb5an.setCell (by show w.heap.size + 3 ≤ w.heap.size + 3; omega) van
        have kout6an := block_setAt koutan 1 van
        obtain ⟨vaan, vcan, rfl⟩ := R5an.slice
        obtain ⟨o0ban, o1ban⟩ := cells2 koutan
        obtain ⟨f0ban, f1ban⟩ := frozen2 koutan
        have ROWan := hide R6an
        have HBan := hide hb6an
        have KOan := hide kout6an
        clear owan gan R5an R6an hb5an hb6an koutan kout6an hlan hllan o0a o1a
        go_wp2_with fail
        have hst : addK r rs (k + 1) = (lan, false) := by
         rw [unhide HSTEP]
         rw [← unhide HLan]
         simp [hle, hne]
        exact ⟨⟨k + 1, _, by omega, by go_num, by rw [hst], unhide KOan, by rw [hst]; exact unhide ROWan, unhide HBan⟩, by simp [intOf]; omega⟩
     | true =>
      by_cases hc0 : c = 0
      ·subst hc0
       go_wp2_with fail
       refine (unhide CL).mono ?_
       rintro e w2 ⟨rfl, b2⟩
       clear c0 c1 c2 c3 c4 c5 c6 z0 z1
       have q2 := below_next bx b2
       obtain ⟨x0, x1, x2, x3, x4, x5, x6⟩ := cells7 (block_kept b2 (unhide KX))
       obtain ⟨y0, y1, y2, y3, y4, y5, y6⟩ := cells7 (block_kept q2 (unhide KRr))
       have hx3 : HasR w2 (.slice na rk.name.length nc) (.slice ta rk.to.length tc) (.slice xa rk.text.length xc) (.slice ia rk.nums.length ic) rk := (unhide HU).below q2
       have CM := l3cmp_has ((unhide HX).below q2) hx3 hrok (unhide HXOK)
       rw [unhide HXK] at CM
       replace CM := hide CM
       clear hx3
       go_wp2_with fail
       clear x0 x1 x2 x3 x4 x5 x6 y0 y1 y2 y3 y4 y5 y6
       refine (unhide CM).mono ?_
       rintro e w3 ⟨rfl, b3⟩
       have q3 := below_next q2 b3
       have KXI := hide (block_kept b3 (block_kept b2 (unhide KX)))
       have KRI := hide (block_kept q3 (unhide KRr))
       have ROWa := hide ((unhide HROW).later q3)
       have KOa := hide (block_kept q3 hout)
       have HBa := hide (hb.trans (q3.mono (by omega)))
       have zq3 := q3.size
       obtain ⟨x0, x1, x2, x3, x4, x5, x6⟩ := cells7 (unhide KXI)
       obtain ⟨y0, y1, y2, y3, y4, y5, y6⟩ := cells7 (unhide KRI)
       go_wp2_with fail
       have hst : addK r rs (k + 1) = (l0, true) := by
        rw [unhide HSTEP]
        skip
        simp
       exact ⟨⟨k + 1, _, by omega, by go_num, by rw [hst], unhide KOa, by rw [hst]; exact unhide ROWa, unhide HBa⟩, by simp [intOf]; omega⟩
      ·have hne : ¬ c = 0 := hc0
       have hneb : (c != 0) = true := by rw [bne_iff_ne]; exact hc0
       clear hc0
       go_wp2_with fail
       refine (unhide CL).mono ?_
       rintro e w2 ⟨rfl, b2⟩
       clear c0 c1 c2 c3 c4 c5 c6 z0 z1
       have q2 := below_next bx b2
       obtain ⟨x0, x1, x2, x3, x4, x5, x6⟩ := cells7 (block_kept b2 (unhide KX))
       obtain ⟨y0, y1, y2, y3, y4, y5, y6⟩ := cells7 (block_kept q2 (unhide KRr))
       have hx3 : HasR w2 (.slice na rk.name.length nc) (.slice ta rk.to.length tc) (.slice xa rk.text.length xc) (.slice ia rk.nums.length ic) rk := (unhide HU).below q2
       have CM := l3cmp_has ((unhide HX).below q2) hx3 hrok (unhide HXOK)
       rw [unhide HXK] at CM
       replace CM := hide CM
       clear hx3
       go_wp2_with fail
       clear x0 x1 x2 x3 x4 x5 x6 y0 y1 y2 y3 y4 y5 y6
       refine (unhide CM).mono ?_
       rintro e w3 ⟨rfl, b3⟩
       have q3 := below_next q2 b3
       have KXI := hide (block_kept b3 (block_kept b2 (unhide KX)))
       have KRI := hide (block_kept q3 (unhide KRr))
       have ROWa := hide ((unhide HROW).later q3)
       have KOa := hide (block_kept q3 hout)
       have HBa := hide (hb.trans (q3.mono (by omega)))
       have zq3 := q3.size
       obtain ⟨x0, x1, x2, x3, x4, x5, x6⟩ := cells7 (unhide KXI)
       obtain ⟨y0, y1, y2, y3, y4, y5, y6⟩ := cells7 (unhide KRI)
       obtain ⟨xsa, hxoa, hxsa⟩ := unhide ROWa
       have hxla : xsa.length = l0.length * 7 := hxoa.1
       have bya := below_alloc (w := w3) (.cells #[.slice na rk.name.length nc, .int .i64 rk.type, .int .i64 rk.ttl, .int .i64 rk.addr, .slice ta rk.to.length tc, .slice xa rk.text.length xc, .slice ia rk.nums.length ic] 52)
       have kya : ((w3).alloc (.cells #[.slice na rk.name.length nc, .int .i64 rk.type, .int .i64 rk.ttl, .int .i64 rk.addr, .slice ta rk.to.length tc, .slice xa rk.text.length xc, .slice ia rk.nums.length ic] 52)).heap[w3.heap.size]? = some (.cells #[.slice na rk.name.length nc, .int .i64 rk.type, .int .i64 rk.ttl, .int .i64 rk.addr, .slice ta rk.to.length tc, .slice xa rk.text.length xc, .slice ia rk.nums.length ic] 52) := heap_alloc_new w3 _
       obtain ⟨o0a, o1a⟩ := cells2 (unhide KOa)
       have HXOa := hide hxoa
       have HXSa := hide hxsa
       have KYa := hide kya
       have BYa := hide bya
       have KOba := hide (block_kept bya (unhide KOa))
       have zqa := (unhide HBa).size
       have hxba := ownsRow_later hxoa bya
       have HXBa := hide hxba
       clear hxoa hxsa kya bya hxba
       go_wp2_with (at_builtin; first | (refine append_rec rfl _ _ 30 52 rfl Tryz.underlying30 _ info_rr rfl (w.heap.size + 4) _ l0.length xsa rfl (unhide HXBa) w3.heap.size (cellsR (.slice na rk.name.length nc) (.slice ta rk.to.length tc) (.slice xa rk.text.length xc) (.slice ia rk.nums.length ic) rk) rfl (unhide KYa) rfl (by simp [cellsR, Value.oneCell']) (by omega) (Nat.le_trans (Nat.le_trans zW zqa) (unhide BYa).size) ?_) | (refine append_rec rfl _ _ 30 52 rfl Tryz.underlying30 _ info_rr rfl (w.heap.size + 4) _ l0.length xsa rfl (unhide HXBa) _ (cellsR (.slice na rk.name.length nc) (.slice ta rk.to.length tc) (.slice xa rk.text.length xc) (.slice ia rk.nums.length ic) rk) rfl (heap_alloc_new _ _) rfl (by simp [cellsR, Value.oneCell']) (by omega) (Nat.le_trans (Nat.le_trans zW zqa) (unhide BYa).size) ?_))
       intro van wan owan gan
       have koutan := block_grown gan (unhide KOba) (row_type (unhide HXBa) (unhide KOba) (by decide))
       have R5an := RowS.snoc hxla (unhide HXSa) owan (show HasR w (.slice na rk.name.length nc) (.slice ta rk.to.length tc) (.slice xa rk.text.length xc) (.slice ia rk.nums.length ic) rk from ⟨(unhide HU0).name, (unhide HU0).to, (unhide HU0).text, (unhide HU0).nums⟩)
       generalize hlan : l0 ++ [rk] = lan at R5an
       have HLan := hide hlan
       have hllan : lan.length = l0.length + 1 := by rw [← hlan, List.length_append]; rfl
       have hllean : lan.length ≤ l0.length + 1 := Nat.le_of_eq hllan
       have R6an := R5an.off (grown_setCell wan ⟨w.heap.size + 3, 1, none⟩ van) (by show w.heap.size + 3 < w.heap.size + 4; omega)
       have hb5an : Below (w.heap.size + 3) W wan := ((unhide HBa).trans ((unhide BYa).mono (by omega))).grown gan (by have := (unhide HBa).size; have := (unhide BYa).size; omega) (fun q hq => by have := (World.ownsRow.lt (unhide HXBa) q hq).1; omega)
       have hb6an : Below (w.heap.size + 3) W (wan.setCell ⟨w.heap.size + 3, 1, none⟩ van) := hb5an.setCell (by show w.heap.size + 3 ≤ w.heap.size + 3; omega) van
       have kout6an := block_setAt koutan 1 van
       obtain ⟨vaan, vcan, rfl⟩ := R5an.slice
       obtain ⟨o0ban, o1ban⟩ := cells2 koutan
       obtain ⟨f0ban, f1ban⟩ := frozen2 koutan
       have ROWan := hide R6an
       have HBan := hide hb6an
       have KOan := hide kout6an
       clear owan gan R5an R6an hb5an hb6an koutan kout6an hlan hllan o0a o1a
       go_wp2_with fail
       have hst : addK r rs (k + 1) = (lan, true) := by
        rw [unhide HSTEP]
        rw [← unhide HLan]
        simp [hne]
       exact ⟨⟨k + 1, _, by omega, by go_num, by rw [hst], unhide KOan, by rw [hst]; exact unhide ROWan, unhide HBan⟩, by simp [intOf]; omega⟩
   ·have hzb : (cmpN rk.name r.name == 0) = false := by rw [beq_eq_false_iff_ne]; exact hz
    replace CL := hide CL
    have hxk : upd r rk = rk := by unfold upd; rw [if_neg (fun q => hz q.1)]
    rw [hxk] at HSTEP HXOK
    have HXK : Hid (cmpR r rk = c) := hide (by rw [← hxk, upd_cmp2]; exact unhide HC0)
    clear hxk
    clear hz
    cases p0 with
    | false =>
     by_cases hc0 : c = 0
     ·subst hc0
      go_wp2_with fail
      refine (unhide CL).mono ?_
      rintro e w2 ⟨rfl, b2⟩
      clear c0 c1 c2 c3 c4 c5 c6 z0 z1
      have q2 := below_next bx b2
      obtain ⟨x0, x1, x2, x3, x4, x5, x6⟩ := cells7 (block_kept b2 (unhide KX))
      obtain ⟨y0, y1, y2, y3, y4, y5, y6⟩ := cells7 (block_kept q2 (unhide KRr))
      have hx3 : HasR w2 (.slice na rk.name.length nc) (.slice ta rk.to.length tc) (.slice xa rk.text.length xc) (.slice ia rk.nums.length ic) rk := (unhide HU).below q2
      have CM := l3cmp_has ((unhide HX).below q2) hx3 hrok (unhide HXOK)
      rw [unhide HXK] at CM
      replace CM := hide CM
      clear hx3
      go_wp2_with fail
      clear x0 x1 x2 x3 x4 x5 x6 y0 y1 y2 y3 y4 y5 y6
      refine (unhide CM).mono ?_
      rintro e w3 ⟨rfl, b3⟩
      have q3 := below_next q2 b3
      have KXI := hide (block_kept b3 (block_kept b2 (unhide KX)))
      have KRI := hide (block_kept q3 (unhide KRr))
      have ROWa := hide ((unhide HROW).later q3)
      have KOa := hide (block_kept q3 hout)
      have HBa := hide (hb.trans (q3.mono (by omega)))
      have zq3 := q3.size
      obtain ⟨x0, x1, x2, x3, x4, x5, x6⟩ := cells7 (unhide KXI)
      obtain ⟨y0, y1, y2, y3, y4, y5, y6⟩ := cells7 (unhide KRI)
      obtain ⟨xsa, hxoa, hxsa⟩ := unhide ROWa
      have hxla : xsa.length = l0.length * 7 := hxoa.1
      have bya := below_alloc (w := w3) (.cells #[.slice una r.name.length unc, .int .i64 r.type, .int .i64 r.ttl, .int .i64 r.addr, .slice uta r.to.length utc, .slice uxa r.text.length uxc, .slice uia r.nums.length uic] 52)
      have kya : ((w3).alloc (.cells #[.slice una r.name.length unc, .int .i64 r.type, .int .i64 r.ttl, .int .i64 r.addr, .slice uta r.to.length utc, .slice uxa r.text.length uxc, .slice uia r.nums.length uic] 52)).heap[w3.heap.size]? = some (.cells #[.slice una r.name.length unc, .int .i64 r.type, .int .i64 r.ttl, .int .i64 r.addr, .slice uta r.to.length utc, .slice uxa r.text.length uxc, .slice uia r.nums.length uic] 52) := heap_alloc_new w3 _
      obtain ⟨o0a, o1a⟩ := cells2 (unhide KOa)
      have HXOa := hide hxoa
      have HXSa := hide hxsa
      have KYa := hide kya
      have BYa := hide bya
      have KOba := hide (block_kept bya (unhide KOa))
      have zqa := (unhide HBa).size
      have hxba := ownsRow_later hxoa bya
      have HXBa := hide hxba
      clear hxoa hxsa kya bya hxba
      go_wp2_with (at_builtin; first | (refine append_rec rfl _ _ 30 52 rfl Tryz.underlying30 _ info_rr rfl (w.heap.size + 4) _ l0.length xsa rfl (unhide HXBa) w3.heap.size (cellsR (.slice una r.name.length unc) (.slice uta r.to.length utc) (.slice uxa r.text.length uxc) (.slice uia r.nums.length uic) r) rfl (unhide KYa) rfl (by simp [cellsR, Value.oneCell']) (by omega) (Nat.le_trans (Nat.le_trans zW zqa) (unhide BYa).size) ?_) | (refine append_rec rfl _ _ 30 52 rfl Tryz.underlying30 _ info_rr rfl (w.heap.size + 4) _ l0.length xsa rfl (unhide HXBa) _ (cellsR (.slice una r.name.length unc) (.slice uta r.to.length utc) (.slice uxa r.text.length uxc) (.slice uia r.nums.length uic) r) rfl (heap_alloc_new _ _) rfl (by simp [cellsR, Value.oneCell']) (by omega) (Nat.le_trans (Nat.le_trans zW zqa) (unhide BYa).size) ?_))
      intro van wan owan gan
      have koutan := block_grown gan (unhide KOba) (row_type (unhide HXBa) (unhide KOba) (by decide))
      have R5an := RowS.snoc hxla (unhide HXSa) owan (unhide HX0)
      generalize hlan : l0 ++ [r] = lan at R5an
      have HLan := hide hlan
      have hllan : lan.length = l0.length + 1 := by rw [← hlan, List.length_append]; rfl
      have hllean : lan.length ≤ l0.length + 1 := Nat.le_of_eq hllan
      have R6an := R5an.off (grown_setCell wan ⟨w.heap.size + 3, 1, none⟩ van) (by show w.heap.size + 3 < w.heap.size + 4; omega)
      have hb5an : Below (w.heap.size + 3) W wan := ((unhide HBa).trans ((unhide BYa).mono (by omega))).grown gan (by have := (unhide HBa).size; have := (unhide BYa).size; omega) (fun q hq => by have := (World.ownsRow.lt (unhide HXBa) q hq).1; omega)
      have hb6an : Below (w.heap.size + 3) W (wan.setCell ⟨w.heap.size + 3, 1, none⟩ van) := hb5an.setCell (by show w.heap.size + 3 ≤ w.heap.size + 3; omega) van
      have kout6an := block_setAt koutan 1 van
      obtain ⟨vaan, vcan, rfl⟩ := R5an.slice
      obtain ⟨o0ban, o1ban⟩ := cells2 koutan
      obtain ⟨f0ban, f1ban⟩ := frozen2 koutan
      have ROWan := hide R6an
      have HBan := hide hb6an
      have KOan := hide kout6an
      clear owan gan R5an R6an hb5an hb6an koutan kout6an hlan hllan o0a o1a
      go_wp2_with fail
      have hst : addK r rs (k + 1) = (lan, true) := by
       rw [unhide HSTEP]
       rw [← unhide HLan]
       simp
      exact ⟨⟨k + 1, _, by omega, by go_num, by rw [hst], unhide KOan, by rw [hst]; exact unhide ROWan, unhide HBan⟩, by simp [intOf]; omega⟩
     ·have hne : ¬ c = 0 := hc0
      have hneb : (c != 0) = true := by rw [bne_iff_ne]; exact hc0
      by_cases hle : c ≤ 0
      ·clear hc0
       go_wp2_with fail
       refine (unhide CL).mono ?_
       rintro e w2 ⟨rfl, b2⟩
       clear c0 c1 c2 c3 c4 c5 c6 z0 z1
       have q2 := below_next bx b2
       obtain ⟨x0, x1, x2, x3, x4, x5, x6⟩ := cells7 (block_kept b2 (unhide KX))
       obtain ⟨y0, y1, y2, y3, y4, y5, y6⟩ := cells7 (block_kept q2 (unhide KRr))
       have hx3 : HasR w2 (.slice na rk.name.length nc) (.slice ta rk.to.length tc) (.slice xa rk.text.length xc) (.slice ia rk.nums.length ic) rk := (unhide HU).below q2
       have CM := l3cmp_has ((unhide HX).below q2) hx3 hrok (unhide HXOK)
       rw [unhide HXK] at CM
       replace CM := hide CM
       clear hx3
       go_wp2_with fail
       clear x0 x1 x2 x3 x4 x5 x6 y0 y1 y2 y3 y4 y5 y6
       refine (unhide CM).mono ?_
       rintro e w3 ⟨rfl, b3⟩
       have q3 := below_next q2 b3
       have KXI := hide (block_kept b3 (block_kept b2 (unhide KX)))
       have KRI := hide (block_kept q3 (unhide KRr))
       have ROWa := hide ((unhide HROW).later q3)
       have KOa := hide (block_kept q3 hout)
       have HBa := hide (hb.trans (q3.mono (by omega)))
       have zq3 := q3.size
       obtain ⟨x0, x1, x2, x3, x4, x5, x6⟩ := cells7 (unhide KXI)
       obtain ⟨y0, y1, y2, y3, y4, y5, y6⟩ := cells7 (unhide KRI)
       obtain ⟨xsa, hxoa, hxsa⟩ := unhide ROWa
       have hxla : xsa.length = l0.length * 7 := hxoa.1
       have bya := below_alloc (w := w3) (.cells #[.slice una r.name.length unc, .int .i64 r.type, .int .i64 r.ttl, .int .i64 r.addr, .slice uta r.to.length utc, .slice uxa r.text.length uxc, .slice uia r.nums.length uic] 52)
       have kya : ((w3).alloc (.cells #[.slice una r.name.length unc, .int .i64 r.type, .int .i64 r.ttl, .int .i64 r.addr, .slice uta r.to.length utc, .slice uxa r.text.length uxc, .slice uia r.nums.length uic] 52)).heap[w3.heap.size]? = some (.cells #[.slice una r.name.length unc, .int .i64 r.type, .int .i64 r.ttl, .int .i64 r.addr, .slice uta r.to.length utc, .slice uxa r.text.length uxc, .slice uia r.nums.length uic] 52) := heap_alloc_new w3 _
       obtain ⟨o0a, o1a⟩ := cells2 (unhide KOa)
       have HXOa := hide hxoa
       have HXSa := hide hxsa
       have KYa := hide kya
       have BYa := hide bya
       have KOba := hide (block_kept bya (unhide KOa))
       have zqa := (unhide HBa).size
       have hxba := ownsRow_later hxoa bya
       have HXBa := hide hxba
       clear hxoa hxsa kya bya hxba
       go_wp2_with (at_builtin; first | (refine append_rec rfl _ _ 30 52 rfl Tryz.underlying30 _ info_rr rfl (w.heap.size + 4) _ l0.length xsa rfl (unhide HXBa) w3.heap.size (cellsR (.slice una r.name.length unc) (.slice uta r.to.length utc) (.slice uxa r.text.length uxc) (.slice uia r.nums.length uic) r) rfl (unhide KYa) rfl (by simp [cellsR, Value.oneCell']) (by omega) (Nat.le_trans (Nat.le_trans zW zqa) (unhide BYa).size) ?_) | (refine append_rec rfl _ _ 30 52 rfl Tryz.underlying30 _ info_rr rfl (w.heap.size + 4) _ l0.length xsa rfl (unhide HXBa) _ (cellsR (.slice una r.name.length unc) (.slice uta r.to.length utc) (.slice uxa r.text.length uxc) (.slice uia r.nums.length uic) r) rfl (heap_alloc_new _ _) rfl (by simp [cellsR, Value.oneCell']) (by omega) (Nat.le_trans (Nat.le_trans zW zqa) (unhide BYa).size) ?_))
       intro van wan owan gan
       have koutan := block_grown gan (unhide KOba) (row_type (unhide HXBa) (unhide KOba) (by decide))
       have R5an := RowS.snoc hxla (unhide HXSa) owan (unhide HX0)
       generalize hlan : l0 ++ [r] = lan at R5an
       have HLan := hide hlan
       have hllan : lan.length = l0.length + 1 := by rw [← hlan, List.length_append]; rfl
       have hllean : lan.length ≤ l0.length + 1 := Nat.le_of_eq hllan
       have R6an := R5an.off (grown_setCell wan ⟨w.heap.size + 3, 1, none⟩ van) (by show w.heap.size + 3 < w.heap.size + 4; omega)
       have hb5an : Below (w.heap.size + 3) W wan := ((unhide HBa).trans ((unhide BYa).mono (by omega))).grown gan (by have := (unhide HBa).size; have := (unhide BYa).size; omega) (fun q hq => by have := (World.ownsRow.lt (unhide HXBa) q hq).1; omega)
       have hb6an : Below (w.heap.size + 3) W (wan.setCell ⟨w.heap.size + 3, 1, none⟩ van) := hb5an.setCell (by show w.heap.size + 3 ≤ w.heap.size + 3; omega) van
       have kout6an := block_setAt koutan 1 van
       have kx5an := block_grown gan (block_kept (unhide BYa) (unhide KXI)) (fun e => by have := (World.ownsRow.lt (unhide HXW) _ e).2; omega)
       have kx6an := block_grown (grown_setCell wan ⟨w.heap.size + 3, 1, none⟩ van) kx5an (fun e => by simp only [Option.some.injEq] at e; omega)
       obtain ⟨vaan, vcan, rfl⟩ := R5an.slice
       obtain ⟨o0ban, o1ban⟩ := cells2 koutan
       obtain ⟨f0ban, f1ban⟩ := frozen2 koutan
       have ROWan := hide R6an
       have HBan := hide hb6an
       have KOan := hide kout6an
       have KXan := hide kx6an
       obtain ⟨x0, x1, x2, x3, x4, x5, x6⟩ := cells7 kx6an
       clear kx5an kx6an
       clear owan gan R5an R6an hb5an hb6an koutan kout6an hlan hllan o0a o1a
       have KRJ := hide True.intro
       obtain ⟨xsan, hxoan, hxsan⟩ := unhide ROWan
       have hxlan : xsan.length = lan.length * 7 := hxoan.1
       have byan := below_alloc (w := (wan.setCell ⟨w.heap.size + 3, 1, none⟩ (.slice vaan lan.length vcan))) (.cells #[.slice na rk.name.length nc, .int .i64 rk.type, .int .i64 rk.ttl, .int .i64 rk.addr, .slice ta rk.to.length tc, .slice xa rk.text.length xc, .slice ia rk.nums.length ic] 52)
       have kyan : (((wan.setCell ⟨w.heap.size + 3, 1, none⟩ (.slice vaan lan.length vcan))).alloc (.cells #[.slice na rk.name.length nc, .int .i64 rk.type, .int .i64 rk.ttl, .int .i64 rk.addr, .slice ta rk.to.length tc, .slice xa rk.text.length xc, .slice ia rk.nums.length ic] 52)).heap[wan.heap.size]? = some (.cells #[.slice na rk.name.length nc, .int .i64 rk.type, .int .i64 rk.ttl, .int .i64 rk.addr, .slice ta rk.to.length tc, .slice xa rk.text.length xc, .slice ia rk.nums.length ic] 52) := (by have := heap_alloc_new (wan.setCell ⟨w.heap.size + 3, 1, none⟩ (.slice vaan lan.length vcan)) (.cells #[.slice na rk.name.length nc, .int .i64 rk.type, .int .i64 rk.ttl, .int .i64 rk.addr, .slice ta rk.to.length tc, .slice xa rk.text.length xc, .slice ia rk.nums.length ic] 52); rwa [World.size_setCell] at this)
       obtain ⟨o0an, o1an⟩ := cells2 (unhide KOan)
       have HXOan := hide hxoan
       have HXSan := hide hxsan
       have KYan := hide kyan
       have BYan := hide byan
       have KOban := hide (block_kept byan (unhide KOan))
       have zqan := (unhide HBan).size
       have hxban := ownsRow_later hxoan byan
       have HXBan := hide hxban
       clear hxoan hxsan kyan byan hxban
       go_wp2_with (at_builtin; first | (refine append_rec rfl _ _ 30 52 rfl Tryz.underlying30 _ info_rr rfl (w.heap.size + 4) _ lan.length xsan rfl (unhide HXBan) wan.heap.size (cellsR (.slice na rk.name.length nc) (.slice ta rk.to.length tc) (.slice xa rk.text.length xc) (.slice ia rk.nums.length ic) rk) rfl (unhide KYan) rfl (by simp [cellsR, Value.oneCell']) (by omega) (Nat.le_trans (Nat.le_trans zW zqan) (unhide BYan).size) ?_) | (refine append_rec rfl _ _ 30 52 rfl Tryz.underlying30 _ info_rr rfl (w.heap.size + 4) _ lan.length xsan rfl (unhide HXBan) _ (cellsR (.slice na rk.name.length nc) (.slice ta rk.to.length tc) (.slice xa rk.text.length xc) (.slice ia rk.nums.length ic) rk) rfl (heap_alloc_new _ _) rfl (by simp [cellsR, Value.oneCell']) (by omega) (Nat.le_trans (Nat.le_trans zW zqan) (unhide BYan).size) ?_))
       intro vann wann owann gann
       have koutann := block_grown gann (unhide KOban) (row_type (unhide HXBan) (unhide KOban) (by decide))
       have R5ann := RowS.snoc hxlan (unhide HXSan) owann (show HasR w (.slice na rk.name.length nc) (.slice ta rk.to.length tc) (.slice xa rk.text.length xc) (.slice ia rk.nums.length ic) rk from ⟨(unhide HU0).name, (unhide HU0).to, (unhide HU0).text, (unhide HU0).nums⟩)
       generalize hlann : lan ++ [rk] = lann at R5ann
       have HLann := hide hlann
       have hllann : lann.length = lan.length + 1 := by rw [← hlann, List.length_append]; rfl
       have hlleann : lann.length ≤ lan.length + 1 := Nat.le_of_eq hllann
       have R6ann := R5ann.off (grown_setCell wann ⟨w.heap.size + 3, 1, none⟩ vann) (by show w.heap.size + 3 < w.heap.size + 4; omega)
       have hb5ann : Below (w.heap.size + 3) W wann := ((unhide HBan).trans ((unhide BYan).mono (by omega))).grown gann (by have := (unhide HBan).size; have := (unhide BYan).size; omega) (fun q hq => by have := (World.ownsRow.lt (unhide HXBan) q hq).1; omega)
       have hb6ann : Below (w.heap.size + 3) W (wann.setCell ⟨w.heap.size + 3, 1, none⟩ vann) := hb5ann.setCell (by show w.heap.size + 3 ≤ w.heap.size + 3; omega) vann
       have kout6ann := block_setAt koutann 1 vann
       obtain ⟨vaann, vcann, rfl⟩ := R5ann.slice
       obtain ⟨o0bann, o1bann⟩ := cells2 koutann
       obtain ⟨f0bann, f1bann⟩ := frozen2 koutann
       have ROWann := hide R6ann
       have HBann := hide hb6ann
       have KOann := hide kout6ann
       clear owann gann R5ann R6ann hb5ann hb6ann koutann kout6ann hlann hllann o0an o1an
       go_wp2_with fail
       have hst : addK r rs (k + 1) = (lann, true) := by
        rw [unhide HSTEP]
        rw [← unhide HLann, ← unhide HLan]
        simp [hle, hne]
       exact ⟨⟨k + 1, _, by omega, by go_num, by rw [hst], unhide KOann, by rw [hst]; exact unhide ROWann, unhide HBann⟩, by simp [intOf]; omega⟩
      ·clear hc0
       go_wp2_with fail
       refine (unhide CL).mono ?_
       rintro e w2 ⟨rfl, b2⟩
       clear c0 c1 c2 c3 c4 c5 c6 z0 z1
       have q2 := below_next bx b2
       obtain ⟨x0, x1, x2, x3, x4, x5, x6⟩ := cells7 (block_kept b2 (unhide KX))
       obtain ⟨y0, y1, y2, y3, y4, y5, y6⟩ := cells7 (block_kept q2 (unhide KRr))
       have hx3 : HasR w2 (.slice na rk.name.length nc) (.slice ta rk.to.length tc) (.slice xa rk.text.length xc) (.slice ia rk.nums.length ic) rk := (unhide HU).below q2
       have CM := l3cmp_has ((unhide HX).below q2) hx3 hrok (unhide HXOK)
       rw [unhide HXK] at CM
       replace CM := hide CM
       clear hx3
       go_wp2_with fail
       clear x0 x1 x2 x3 x4 x5 x6 y0 y1 y2 y3 y4 y5 y6
       refine (unhide CM).mono ?_
       rintro e w3 ⟨rfl, b3⟩
       have q3 := below_next q2 b3
       have KXI := hide (block_kept b3 (block_kept b2 (unhide KX)))
       have KRI := hide (block_kept q3 (unhide KRr))
       have ROWa := hide ((unhide HROW).later q3)
       have KOa := hide (block_kept q3 hout)
       have HBa := hide (hb.trans (q3.mono (by omega)))
       have zq3 := q3.size
       obtain ⟨x0, x1, x2, x3, x4, x5, x6⟩ := cells7 (unhide KXI)
       obtain ⟨y0, y1, y2, y3, y4, y5, y6⟩ := cells7 (unhide KRI)
       obtain ⟨xsa, hxoa, hxsa⟩ := unhide ROWa
       have hxla : xsa.length = l0.length * 7 := hxoa.1
       have bya := below_alloc (w := w3) (.cells #[.slice na rk.name.length nc, .int .i64 rk.type, .int .i64 rk.ttl, .int .i64 rk.addr, .slice ta rk.to.length tc, .slice xa rk.text.length xc, .slice ia rk.nums.length ic] 52)
       have kya : ((w3).alloc (.cells #[.slice na rk.name.length nc, .int .i64 rk.type, .int .i64 rk.ttl, .int .i64 rk.addr, .slice ta rk.to.length tc, .slice xa rk.text.length xc, .slice ia rk.nums.length ic] 52)).heap[w3.heap.size]? = some (.cells #[.slice na rk.name.length nc, .int .i64 rk.type, .int .i64 rk.ttl, .int .i64 rk.addr, .slice ta rk.to.length tc, .slice xa rk.text.length xc, .slice ia rk.nums.length ic] 52) := heap_alloc_new w3 _
       obtain ⟨o0a, o1a⟩ := cells2 (unhide KOa)
       have HXOa := hide hxoa
       have HXSa := hide hxsa
       have KYa := hide kya
       have BYa := hide bya
       have KOba := hide (block_kept bya (unhide KOa))
       have zqa := (unhide HBa).size
       have hxba := ownsRow_later hxoa bya
       have HXBa := hide hxba
       clear hxoa hxsa kya bya hxba
       go_wp2_with (at_builtin; first | (refine append_rec rfl _ _ 30 52 rfl Tryz.underlying30 _ info_rr rfl (w.heap.size + 4) _ l0.length xsa rfl (unhide HXBa) w3.heap.size (cellsR (.slice na rk.name.length nc) (.slice ta rk.to.length tc) (.slice xa rk.text.length xc) (.slice ia rk.nums.length ic) rk) rfl (unhide KYa) rfl (by simp [cellsR, Value.oneCell']) (by omega) (Nat.le_trans (Nat.le_trans zW zqa) (unhide BYa).size) ?_) | (refine append_rec rfl _ _ 30 52 rfl Tryz.underlying30 _ info_rr rfl (w.heap.size + 4) _ l0.length xsa rfl (unhide HXBa) _ (cellsR (.slice na rk.name.length nc) (.slice ta rk.to.length tc) (.slice xa rk.text.length xc) (.slice ia rk.nums.length ic) rk) rfl (heap_alloc_new _ _) rfl (by simp [cellsR, Value.oneCell']) (by omega) (Nat.le_trans (Nat.le_trans zW zqa) (unhide BYa).size) ?_))
       intro van wan owan gan
       have koutan := block_grown gan (unhide KOba) (row_type (unhide HXBa) (unhide KOba) (by decide))
       have R5an := RowS.snoc hxla (unhide HXSa) owan (show HasR w (.slice na rk.name.length nc) (.slice ta rk.to.length tc) (.slice xa rk.text.length xc) (.slice ia rk.nums.length ic) rk from ⟨(unhide HU0).name, (unhide HU0).to, (unhide HU0).text, (unhide HU0).nums⟩)
       generalize hlan : l0 ++ [rk] = lan at R5an
       have HLan := hide hlan
       have hllan : lan.length = l0.length + 1 := by rw [← hlan, List.length_append]; rfl
       have hllean : lan.length ≤ l0.length + 1 := Nat.le_of_eq hllan
       have R6an := R5an.off (grown_setCell wan ⟨w.heap.size + 3, 1, none⟩ van) (by show w.heap.size + 3 < w.heap.size + 4; omega)
       have hb5an : Below (w.heap.size + 3) W wan := ((unhide HBa).trans ((unhide BYa).mono (by omega))).grown gan (by have := (unhide HBa).size; have := (unhide BYa).size; omega) (fun q hq => by have := (World.ownsRow.lt (unhide HXBa) q hq).1; omega)
       have hb6an : Below (w.heap.size + 3) W (wan.setCell ⟨w.heap.size + 3, 1, none⟩ van) := hb5an.setCell (by show w.heap.size + 3 ≤ w.heap.size + 3; omega) van
       have kout6an := block_setAt koutan 1 van
       obtain ⟨vaan, vcan, rfl⟩ := R5an.slice
       obtain ⟨o0ban, o1ban⟩ := cells2 koutan
       obtain ⟨f0ban, f1ban⟩ := frozen2 koutan
       have ROWan := hide R6an
       have HBan := hide hb6an
       have KOan := hide kout6an
       clear owan gan R5an R6an hb5an hb6an koutan kout6an hlan hllan o0a o1a
       go_wp2_with fail
       have hst : addK r rs (k + 1) = (lan, false) := by
        rw [unhide HSTEP]
        rw [← unhide HLan]
        simp [hle, hne]
       exact ⟨⟨k + 1, _, by omega, by go_num, by rw [hst], unhide KOan, by rw [hst]; exact unhide ROWan, unhide HBan⟩, by simp [intOf]; omega⟩
    | true =>
     by_cases hc0 : c = 0
     ·subst hc0
      go_wp2_with fail
      refine (unhide CL).mono ?_
      rintro e w2 ⟨rfl, b2⟩
      clear c0 c1 c2 c3 c4 c5 c6 z0 z1
      have q2 := below_next bx b2
      obtain ⟨x0, x1, x2, x3, x4, x5, x6⟩ := cells7 (block_kept b2 (unhide KX))
      obtain ⟨y0, y1, y2, y3, y4, y5, y6⟩ := cells7 (block_kept q2 (unhide KRr))
      have hx3 : HasR w2 (.slice na rk.name.length nc) (.slice ta rk.to.length tc) (.slice xa rk.text.length xc) (.slice ia rk.nums.length ic) rk := (unhide HU).below q2
      have CM := l3cmp_has ((unhide HX).below q2) hx3 hrok (unhide HXOK)
      rw [unhide HXK] at CM
      replace CM := hide CM
      clear hx3
      go_wp2_with fail
      clear x0 x1 x2 x3 x4 x5 x6 y0 y1 y2 y3 y4 y5 y6
      refine (unhide CM).mono ?_
      rintro e w3 ⟨rfl, b3⟩
      have q3 := below_next q2 b3
      have KXI := hide (block_kept b3 (block_kept b2 (unhide KX)))
      have KRI := hide (block_kept q3 (unhide KRr))
      have ROWa := hide ((unhide HROW).later q3)
      have KOa := hide (block_kept q3 hout)
      have HBa := hide (hb.trans (q3.mono (by omega)))
      have zq3 := q3.size
      obtain ⟨x0, x1, x2, x3, x4, x5, x6⟩ := cells7 (unhide KXI)
      obtain ⟨y0, y1, y2, y3, y4, y5, y6⟩ := cells7 (unhide KRI)
      go_wp2_with fail
      have hst : addK r rs (k + 1) = (l0, true) := by
       rw [unhide HSTEP]
       skip
       simp
      exact ⟨⟨k + 1, _, by omega, by go_num, by rw [hst], unhide KOa, by rw [hst]; exact unhide ROWa, unhide HBa⟩, by simp [intOf]; omega⟩
     ·have hne : ¬ c = 0 := hc0
      have hneb : (c != 0) = true := by rw [bne_iff_ne]; exact hc0
      clear hc0
      go_wp2_with fail
      refine (unhide CL).mono ?_
      rintro e w2 ⟨rfl, b2⟩
      clear c0 c1 c2 c3 c4 c5 c6 z0 z1
      have q2 := below_next bx b2
      obtain ⟨x0, x1, x2, x3, x4, x5, x6⟩ := cells7 (block_kept b2 (unhide KX))
      obtain ⟨y0, y1, y2, y3, y4, y5, y6⟩ := cells7 (block_kept q2 (unhide KRr))
      have hx3 : HasR w2 (.slice na rk.name.length nc) (.slice ta rk.to.length tc) (.slice xa rk.text.length xc) (.slice ia rk.nums.length ic) rk := (unhide HU).below q2
      have CM := l3cmp_has ((unhide HX).below q2) hx3 hrok (unhide HXOK)
      rw [unhide HXK] at CM
      replace CM := hide CM
      clear hx3
      go_wp2_with fail
      clear x0 x1 x2 x3 x4 x5 x6 y0 y1 y2 y3 y4 y5 y6
      refine (unhide CM).mono ?_
      rintro e w3 ⟨rfl, b3⟩
      have q3 := below_next q2 b3
      have KXI := hide (block_kept b3 (block_kept b2 (unhide KX)))
      have KRI := hide (block_kept q3 (unhide KRr))
      have ROWa := hide ((unhide HROW).later q3)
      have KOa := hide (block_kept q3 hout)
      have HBa := hide (hb.trans (q3.mono (by omega)))
      have zq3 := q3.size
      obtain ⟨x0, x1, x2, x3, x4, x5, x6⟩ := cells7 (unhide KXI)
      obtain ⟨y0, y1, y2, y3, y4, y5, y6⟩ := cells7 (unhide KRI)
      obtain ⟨xsa, hxoa, hxsa⟩ := unhide ROWa
      have hxla : xsa.length = l0.length * 7 := hxoa.1
      have bya := below_alloc (w := w3) (.cells #[.slice na rk.name.length nc, .int .i64 rk.type, .int .i64 rk.ttl, .int .i64 rk.addr, .slice ta rk.to.length tc, .slice xa rk.text.length xc, .slice ia rk.nums.length ic] 52)
      have kya : ((w3).alloc (.cells #[.slice na rk.name.length nc, .int .i64 rk.type, .int .i64 rk.ttl, .int .i64 rk.addr, .slice ta rk.to.length tc, .slice xa rk.text.length xc, .slice ia rk.nums.length ic] 52)).heap[w3.heap.size]? = some (.cells #[.slice na rk.name.length nc, .int .i64 rk.type, .int .i64 rk.ttl, .int .i64 rk.addr, .slice ta rk.to.length tc, .slice xa rk.text.length xc, .slice ia rk.nums.length ic] 52) := heap_alloc_new w3 _
      obtain ⟨o0a, o1a⟩ := cells2 (unhide KOa)
      have HXOa := hide hxoa
      have HXSa := hide hxsa
      have KYa := hide kya
      have BYa := hide bya
      have KOba := hide (block_kept bya (unhide KOa))
      have zqa := (unhide HBa).size
      have hxba := ownsRow_later hxoa bya
      have HXBa := hide hxba
      clear hxoa hxsa kya bya hxba
      go_wp2_with (at_builtin; first | (refine append_rec rfl _ _ 30 52 rfl Tryz.underlying30 _ info_rr rfl (w.heap.size + 4) _ l0.length xsa rfl (unhide HXBa) w3.heap.size (cellsR (.slice na rk.name.length nc) (.slice ta rk.to.length tc) (.slice xa rk.text.length xc) (.slice ia rk.nums.length ic) rk) rfl (unhide KYa) rfl (by simp [cellsR, Value.oneCell']) (by omega) (Nat.le_trans (Nat.le_trans zW zqa) (unhide BYa).size) ?_) | (refine append_rec rfl _ _ 30 52 rfl Tryz.underlying30 _ info_rr rfl (w.heap.size + 4) _ l0.length xsa rfl (unhide HXBa) _ (cellsR (.slice na rk.name.length nc) (.slice ta rk.to.length tc) (.slice xa rk.text.length xc) (.slice ia rk.nums.length ic) rk) rfl (heap_alloc_new _ _) rfl (by simp [cellsR, Value.oneCell']) (by omega) (Nat.le_trans (Nat.le_trans zW zqa) (unhide BYa).size) ?_))
      intro van wan owan gan
      have koutan := block_grown gan (unhide KOba) (row_type (unhide HXBa) (unhide KOba) (by decide))
      have R5an := RowS.snoc hxla (unhide HXSa) owan (show HasR w (.slice na rk.name.length nc) (.slice ta rk.to.length tc) (.slice xa rk.text.length xc) (.slice ia rk.nums.length ic) rk from ⟨(unhide HU0).name, (unhide HU0).to, (unhide HU0).text, (unhide HU0).nums⟩)
      generalize hlan : l0 ++ [rk] = lan at R5an
      have HLan := hide hlan
      have hllan : lan.length = l0.length + 1 := by rw [← hlan, List.length_append]; rfl
      have hllean : lan.length ≤ l0.length + 1 := Nat.le_of_eq hllan
      have R6an := R5an.off (grown_setCell wan ⟨w.heap.size + 3, 1, none⟩ van) (by show w.heap.size + 3 < w.heap.size + 4; omega)
      have hb5an : Below (w.heap.size + 3) W wan := ((unhide HBa).trans ((unhide BYa).mono (by omega))).grown gan (by have := (unhide HBa).size; have := (unhide BYa).size; omega) (fun q hq => by have := (World.ownsRow.lt (unhide HXBa) q hq).1; omega)
      have hb6an : Below (w.heap.size + 3) W (wan.setCell ⟨w.heap.size + 3, 1, none⟩ van) := hb5an.setCell (by show w.heap.size + 3 ≤ w.heap.size + 3; omega) van
      have kout6an := block_setAt koutan 1 van
      obtain ⟨vaan, vcan, rfl⟩ := R5an.slice
      obtain ⟨o0ban, o1ban⟩ := cells2 koutan
      obtain ⟨f0ban, f1ban⟩ := frozen2 koutan
      have ROWan := hide R6an
      have HBan := hide hb6an
      have KOan := hide kout6an
      clear owan gan R5an R6an hb5an hb6an koutan kout6an hlan hllan o0a o1a
      go_wp2_with fail
      have hst : addK r rs (k + 1) = (lan, true) := by
       rw [unhide HSTEP]
       rw [← unhide HLan]
       simp [hne]
      exact ⟨⟨k + 1, _, by omega, by go_num, by rw [hst], unhide KOan, by rw [hst]; exact unhide ROWan, unhide HBan⟩, by simp [intOf]; omega⟩
  ·obtain rfl : k = m := by omega
   have hend := unhide HEND
   generalize hA : addK r rs k = A at *
   obtain ⟨l0, p0⟩ := A
   dsimp only at hend hrow hout hlen0
   dsimp only
   have ks := (hb.block _ (by omega)).trans (unhide KS)
   have KRr := hide ((hb.block _ (by omega)).trans (unhide KR))
   have hkm : ¬ (k : Int) < k := by omega
   have HBW := hide bw
   have ROWa := hide hrow
   have KOa := hide hout
   have HBa := hide hb
   cases p0 with
   | true =>
    rw [if_pos rfl, List.append_nil] at hend
    subst hend
    obtain ⟨o0, o1⟩ := cells2 hout
    obtain ⟨r0, r1⟩ := cells2 ks
    obtain ⟨f0, f1⟩ := frozen2 ks
    have KSS := hide ks
    clear ks hrow bw hout kz hb hA
    go_wp2_with fail
    clear o0 o1 r0 r1 f0 f1 z0 z1
    have kf : ((wr.setCell ⟨w.heap.size + 2, 0, none⟩ (.slice oa o.length oc)).setCell ⟨w.heap.size + 2, 1, none⟩ (.slice va l0.length vc)).heap[w.heap.size + 2]? = some (.cells #[.slice oa o.length oc, .slice va l0.length vc] 34) := block_setAt (block_setAt (unhide KSS) 0 _) 1 _
    have R6 := ((unhide ROWa).off (grown_setCell wr ⟨w.heap.size + 2, 0, none⟩ (.slice oa o.length oc)) (by show w.heap.size + 2 < w.heap.size + 4; omega)).off (grown_setCell _ ⟨w.heap.size + 2, 1, none⟩ (.slice va l0.length vc)) (by show w.heap.size + 2 < w.heap.size + 4; omega)
    have b6 : Below w.heap.size w ((wr.setCell ⟨w.heap.size + 2, 0, none⟩ (.slice oa o.length oc)).setCell ⟨w.heap.size + 2, 1, none⟩ (.slice va l0.length vc)) := ((unhide HBW).setCell (by show w.heap.size ≤ w.heap.size + 2; omega) _).setCell (by show w.heap.size ≤ w.heap.size + 2; omega) _
    refine bodyPost_ret (results_cell_row rfl _ _ (w.heap.size + 2) 34 #[.slice oa o.length oc, .slice va l0.length vc] (0, 0) _ rfl kf Tryz.underlying34 rfl (by kernel_rfl)) rfl ?_
    exact ⟨_, rfl, ⟨(unhide HE).name.below b6, R6.has b6⟩, b6⟩
   | false =>
    rw [if_neg (fun q => Bool.noConfusion q)] at hend
    have HEND2 := hide hend
    obtain ⟨y0, y1, y2, y3, y4, y5, y6⟩ := cells7 (unhide KRr)
    have KSS := hide ks
    clear ks hrow bw hout kz hb hA hend
    obtain ⟨xsa, hxoa, hxsa⟩ := unhide ROWa
    have hxla : xsa.length = l0.length * 7 := hxoa.1
    have bya := below_alloc (w := wr) (.cells #[.slice una r.name.length unc, .int .i64 r.type, .int .i64 r.ttl, .int .i64 r.addr, .slice uta r.to.length utc, .slice uxa r.text.length uxc, .slice uia r.nums.length uic] 52)
    have kya : ((wr).alloc (.cells #[.slice una r.name.length unc, .int .i64 r.type, .int .i64 r.ttl, .int .i64 r.addr, .slice uta r.to.length utc, .slice uxa r.text.length uxc, .slice uia r.nums.length uic] 52)).heap[wr.heap.size]? = some (.cells #[.slice una r.name.length unc, .int .i64 r.type, .int .i64 r.ttl, .int .i64 r.addr, .slice uta r.to.length utc, .slice uxa r.text.length uxc, .slice uia r.nums.length uic] 52) := heap_alloc_new wr _
    obtain ⟨o0a, o1a⟩ := cells2 (unhide KOa)
    have HXOa := hide hxoa
    have HXSa := hide hxsa
    have KYa := hide kya
    have BYa := hide bya
    have KOba := hide (block_kept bya (unhide KOa))
    have zqa := (unhide HBa).size
    have hxba := ownsRow_later hxoa bya
    have HXBa := hide hxba
    clear hxoa hxsa kya bya hxba
    go_wp2_with (at_builtin; first | (refine append_rec rfl _ _ 30 52 rfl Tryz.underlying30 _ info_rr rfl (w.heap.size + 4) _ l0.length xsa rfl (unhide HXBa) wr.heap.size (cellsR (.slice una r.name.length unc) (.slice uta r.to.length utc) (.slice uxa r.text.length uxc) (.slice uia r.nums.length uic) r) rfl (unhide KYa) rfl (by simp [cellsR, Value.oneCell']) (by omega) (Nat.le_trans (Nat.le_trans zW zqa) (unhide BYa).size) ?_) | (refine append_rec rfl _ _ 30 52 rfl Tryz.underlying30 _ info_rr rfl (w.heap.size + 4) _ l0.length xsa rfl (unhide HXBa) _ (cellsR (.slice una r.name.length unc) (.slice uta r.to.length utc) (.slice uxa r.text.length uxc) (.slice uia r.nums.length uic) r) rfl (heap_alloc_new _ _) rfl (by simp [cellsR, Value.oneCell']) (by omega) (Nat.le_trans (Nat.le_trans zW zqa) (unhide BYa).size) ?_))
    intro van wan owan gan
    have koutan := block_grown gan (unhide KOba) (row_type (unhide HXBa) (unhide KOba) (by decide))
    have R5an := RowS.snoc hxla (unhide HXSa) owan (unhide HX0)
    generalize hlan : l0 ++ [r] = lan at R5an
    have HLan := hide hlan
    have hllan : lan.length = l0.length + 1 := by rw [← hlan, List.length_append]; rfl
    have hllean : lan.length ≤ l0.length + 1 := Nat.le_of_eq hllan
    have R6an := R5an.off (grown_setCell wan ⟨w.heap.size + 3, 1, none⟩ van) (by show w.heap.size + 3 < w.heap.size + 4; omega)
    have hb5an : Below (w.heap.size + 3) W wan := ((unhide HBa).trans ((unhide BYa).mono (by omega))).grown gan (by have := (unhide HBa).size; have := (unhide BYa).size; omega) (fun q hq => by have := (World.ownsRow.lt (unhide HXBa) q hq).1; omega)
    have hb6an : Below (w.heap.size + 3) W (wan.setCell ⟨w.heap.size + 3, 1, none⟩ van) := hb5an.setCell (by show w.heap.size + 3 ≤ w.heap.size + 3; omega) van
    have kout6an := block_setAt koutan 1 van
    obtain ⟨vaan, vcan, rfl⟩ := R5an.slice
    obtain ⟨o0ban, o1ban⟩ := cells2 koutan
    obtain ⟨f0ban, f1ban⟩ := frozen2 koutan
    have ROWan := hide R6an
    have HBan := hide hb6an
    have KOan := hide kout6an
    clear owan gan R5an R6an hb5an hb6an koutan kout6an hlan hllan o0a o1a
    have hk6 := unhide HLan
    rw [unhide HEND2] at hk6
    subst hk6
    have ks6 := ((unhide HBan).block _ (by omega)).trans (((unhide HBa).block _ (by omega)).symm.trans (unhide KSS))
    obtain ⟨o0, o1⟩ := cells2 (unhide KOan)
    obtain ⟨r0, r1⟩ := cells2 ks6
    obtain ⟨f0, f1⟩ := frozen2 ks6
    have KS6 := hide ks6
    clear ks6 y0 y1 y2 y3 y4 y5 y6
    go_wp2_with fail
    generalize hW9 : wan.setCell ⟨w.heap.size + 3, 1, none⟩ (.slice vaan KP.length vcan) = w9 at *
    have kf : ((w9.setCell ⟨w.heap.size + 2, 0, none⟩ (.slice oa o.length oc)).setCell ⟨w.heap.size + 2, 1, none⟩ (.slice vaan KP.length vcan)).heap[w.heap.size + 2]? = some (.cells #[.slice oa o.length oc, .slice vaan KP.length vcan] 34) := block_setAt (block_setAt (unhide KS6) 0 _) 1 _
    have R6 := ((unhide ROWan).off (grown_setCell w9 ⟨w.heap.size + 2, 0, none⟩ (.slice oa o.length oc)) (by show w.heap.size + 2 < w.heap.size + 4; omega)).off (grown_setCell _ ⟨w.heap.size + 2, 1, none⟩ (.slice vaan KP.length vcan)) (by show w.heap.size + 2 < w.heap.size + 4; omega)
    have b5 : Below w.heap.size w w9 := bb.trans ((unhide HBan).mono (by omega))
    have b6 : Below w.heap.size w ((w9.setCell ⟨w.heap.size + 2, 0, none⟩ (.slice oa o.length oc)).setCell ⟨w.heap.size + 2, 1, none⟩ (.slice vaan KP.length vcan)) := (b5.setCell (by show w.heap.size ≤ w.heap.size + 2; omega) _).setCell (by show w.heap.size ≤ w.heap.size + 2; omega) _
    refine bodyPost_ret (results_cell_row rfl _ _ (w.heap.size + 2) 34 #[.slice oa o.length oc, .slice vaan KP.length vcan] (0, 0) _ rfl kf Tryz.underlying34 rfl (by kernel_rfl)) rfl ?_
    exact ⟨_, rfl, ⟨(unhide HE).name.below b6, R6.has b6⟩, b6⟩
end Go.Proofs.YtmlcmkoefelolaaGreat

namespace Go.Proofs.YtmlcmkoefelolaaGreat
open Go.RowKit
set_option linter.unusedVariables false

theorem info_sl2 : (Tryz.prog.info? 44).map (fun i => (i.zero, i.size, i.bytes)) = some (some (.slice none 0 0), 1, 24) := by kernel_rfl

set_option maxHeartbeats 2000000 in
set_option maxRecDepth 100000 in
theorem l2own_short {v : Value} {n : List (List Int)} {w : World} (h : HasL w v n) (hs : n.length ≤ 7) (hs2 : ∀ k, k < n.length → (n.getD k []).length ≤ 16) :
  Calls Tryz.prog 100 #[.agg #[v]] w fun e w' => ∃ v', e = .returned (.agg #[v']) ∧ OwnL w.heap.size 44 5 w' v' n ∧ Below w.heap.size w w' := by
 obtain ⟨a, cap, rfl, hcl, hcm⟩ := h.form
 unfold maxLen at hcm
 obtain ⟨hsz, h1, h2⟩ := box3 w (.cells #[.slice a n.length cap] 32) #[.slice none 0 0] #[.slice none 0 0] 32 32
 have bb : Below w.heap.size w (((w.alloc (.cells #[.slice a n.length cap] 32)).alloc (.cells #[.slice none 0 0] 32)).alloc (.cells #[.slice none 0 0] 32)) :=
  ((below_alloc _).alloc (below_alloc _).size _).alloc ((below_alloc _).alloc (below_alloc _).size _).size _
 have hbx : (((w.alloc (.cells #[.slice a n.length cap] 32)).alloc (.cells #[.slice none 0 0] 32)).alloc (.cells #[.slice none 0 0] 32)).heap[w.heap.size]? = some (.cells #[.slice a n.length cap] 32) :=
  block_kept (below_alloc _) (block_kept (below_alloc _) (heap_alloc_new w _))
 have H := hide h
 clear h
 have HS2 := hide hs2
 clear hs2
 generalize hn : n.length = m at *
 have HN := hide hn
 clear hn
 go_enter Tryz.func100, Tryz.ntmps100
 go_wp2
 generalize ((w.alloc (.cells #[.slice a m cap] 32)).alloc (.cells #[.slice none 0 0] 32)).alloc (.cells #[.slice none 0 0] 32) = W at *
 go_loopw [4] (fun i wr => ∃ (k : Nat) (o : Value), k ≤ m ∧ i = .int .i64 k ∧ wr.heap[w.heap.size]? = some (.cells #[.slice a m cap] 32) ∧ wr.heap[w.heap.size + 1]? = some (.cells #[.slice none 0 0] 32) ∧ wr.heap[w.heap.size + 1 + 1]? = some (.cells #[o] 32) ∧ OwnL (w.heap.size + 3) 44 5 wr o (n.take k) ∧ Below w.heap.size w wr) (fun i _ => m - (intOf i).toNat)
 case atStart => exact ⟨0, .slice none 0 0, Nat.zero_le _, rfl, hbx, h1, h2, ⟨[], by simpa using World.ownsRow_nil _ _ _ _, by simp, by simp⟩, bb⟩
 case round =>
  obtain ⟨k, o, hk, rfl, hr0, hr1, hr2, ho, hb⟩ := hrel
  have c0 := block_one hr0
  by_cases hlt : k < m
  ·obtain ⟨b, off, u, rfl, hbl, hc, hu⟩ := ((unhide H).below hb).here (k := k) (by rw [unhide HN]; exact hlt)
   have hlk := unhide HS2 k hlt
   have htk := hide (show n.take (k + 1) = n.take k ++ [n.getD k []] by rw [List.take_succ_eq_append_getElem (by rw [unhide HN]; exact hlt)]; simp [show k < n.length by rw [unhide HN]; exact hlt])
   have htl : (n.take k).length = k := by rw [List.length_take, unhide HN]; omega
   generalize n.getD k [] = lab at *
   generalize n.take k = nk at *
   subst htl
   have HU := hide hu
   obtain ⟨ua, uc, rfl, _⟩ := hu.form
   clear hu
   obtain ⟨oa, oc, rfl, _⟩ := ho.hasL.form
   have hod := ho.below (below_drew (w := wr))
   clear ho
   have HO := hide hod
   obtain ⟨vs, hvs, hva, hvd⟩ := hod
   have hvl : vs.length = nk.length := by have := hvs.1; simpa using this
   have kd2 := block_kept (below_drew (w := wr)) hr2
   have kd1 := block_kept (below_drew (w := wr)) hr1
   have bd := below_next hb (below_drew (w := wr))
   have cod := block_one kd2
   have HUd := hide ((unhide HU).below below_drew)
   have HVS := hide hvs
   have HVA := hide hva
   have HVD := hide hvd
   have z3 := block_lt hr2
   have zb : w.heap.size + 3 ≤ wr.drew.heap.size := by show w.heap.size + 3 ≤ wr.heap.size; omega
   clear hva hvd hvs
   have kd0 := block_kept (below_drew (w := wr)) hr0
   have KD0 := hide kd0
   have KD2 := hide kd2
   have KD1 := hide kd1
   have cd0 := block_one kd0
   have cul : wr.drew.cell? ⟨b, off + nk.length, none⟩ = some (.slice ua lab.length uc) := hc
   have ca0 : ∀ o, (wr.alloc o).cell? ⟨w.heap.size, 0, none⟩ = some (.slice (some ⟨b, off, none⟩) m cap) := fun o => block_one (block_kept (below_alloc o) hr0)
   have ca2 : ∀ o, (wr.alloc o).cell? ⟨w.heap.size + 1 + 1, 0, none⟩ = some (.slice oa nk.length oc) := fun o => block_one (block_kept (below_alloc o) hr2)
   have cau : ∀ o, (wr.alloc o).cell? ⟨b, off + nk.length, none⟩ = some (.slice ua lab.length uc) := fun o => ((below_alloc o).cell (p := ⟨b, off + nk.length, none⟩) hbl).trans hc
   have HUA := hide (show ∀ o, Has (wr.drew.alloc o) (.slice ua lab.length uc) lab from fun o => (unhide HUd).below (below_alloc o))
   clear kd2 kd1 kd0
   go_wp2_with fail
   go_region_law (first
    | (refine step_append_bytes rfl (.tmp 14) (.tmp 19) 44 5 rfl Tryz.underlying44 info_u8 wr.drew.heap.size _ _ [] lab (by simp [Act.eval]) (by simp [Act.eval]) (own_lit wr.drew wr.drew.heap.size 5 [] (Nat.le_refl _) (by simp)) (unhide HUA _).reads (by simp only [List.length_nil]; omega) (below_alloc _).size ?_; intro u1 w1 ou g1; have b1 := lit_grown (w := wr.drew) g1; obtain ⟨u1a, u1c, rfl, _⟩ := ou.lies; have OU := hide ou; have B1 := hide b1; have co1 := block_one (block_kept b1 (unhide KD2)); have ca1 : ∀ o, (w1.alloc o).cell? ⟨w.heap.size + 1 + 1, 0, none⟩ = some (.slice oa nk.length oc) := (fun o => block_one (block_kept (below_alloc o) (block_kept b1 (unhide KD2)))); clear ou b1 g1)
    | (refine step_append_row rfl (.tmp 13) (.tmp 21) 22 44 rfl Tryz.underlying22 info_sl2 (w.heap.size + 3) (.slice oa nk.length oc) _ vs [.slice u1a lab.length u1c] (by simp [Act.eval]) (by simp [Act.eval]) (by rw [hvl]; exact World.ownsRow.alloc (ownsRow_kept' (unhide HVS) (unhide B1)) _) (one_more w1 44 _) (by intro y hy; simp at hy; subst hy; rfl) (by rw [hvl]; simp; omega) (by have := (unhide B1).size; simp; omega) ?_; intro v2 w2 o2 g2; obtain ⟨p2, k2, y2⟩ := snoc_step g2 o2 rfl (unhide HVS) (unhide HVA) (unhide HVD) ((unhide B1).alloc (unhide B1).size _) ((unhide OU).alloc _) zb (by decide) (block_kept (below_alloc _) (block_kept (unhide B1) (unhide KD2))) (by decide); obtain ⟨v2a, v2c, rfl, _⟩ := p2.hasL.form; have co2 := block_one k2; have fo2 := block_frozen k2 0))
   all_goals
    go_wp2_with fail
    have k1 := (y2.block (w.heap.size + 1) (by omega)).trans (unhide KD1)
    have k0 := (y2.block w.heap.size (by omega)).trans (unhide KD0)
    refine ⟨⟨nk.length + 1, _, by omega, by go_num, block_other k0 (by omega) 0 _, block_other k1 (by omega) 0 _, block_set k2 _, ?_, (bd.trans (y2.mono (by omega))).setCell (by show w.heap.size ≤ w.heap.size + 1 + 1; omega) _⟩, by simp [intOf]; omega⟩
    rw [unhide htk]
    simp only [List.length_append, List.length_cons, List.length_nil] at p2
    exact p2.kept (grown_setCell _ _ _) (by show w.heap.size + 1 + 1 < _; omega)
  ·obtain rfl : k = m := by omega
   obtain ⟨oa, oc, rfl, _⟩ := ho.hasL.form
   have htk : n.take k = n := List.take_of_length_le (by rw [unhide HN]; omega)
   rw [htk] at ho
   have HLK := hide (show (n.take k).length = n.length by rw [htk])
   rw [unhide HLK] at hr2
   have HO := hide ho
   have c2 := block_one hr2
   have c1 := block_one hr1
   have f1 := block_frozen hr1 0
   have M1 := hide (block_set hr1 (.slice oa n.length oc))
   clear ho htk hr1 hr2 HLK
   go_wp2
   refine bodyPost_ret (results_cell_row rfl _ _ (w.heap.size + 1) 32 #[.slice oa n.length oc] (0, 0) _ rfl (unhide M1) Tryz.underlying32 rfl (by kernel_rfl)) rfl ?_
   exact ⟨_, rfl, ((unhide HO).kept (grown_setCell _ _ _) (by show w.heap.size + 1 < _; omega)).mono (by omega), hb.setCell (by show w.heap.size ≤ w.heap.size + 1; omega) _⟩
end Go.Proofs.YtmlcmkoefelolaaGreat
