/-
  The walk of laws.FnRecords.
-/
import Derived.Test.YthmihglfffeedaaGreatDoorFnRecordsG21
import Derived.Test.YthmihglfffeedaaGreatDoorFnRecordsG24
import Derived.Test.YthmihglfffeedaaGreatDoorFnRecordsG25
import Derived.Test.YthmihglfffeedaaGreatDoorFnRecordsG31
import Derived.Test.YthmihglfffeedaaGreatDoorFnRecordsG38
import Derived.Test.YthmihglfffeedaaGreatDoorFnRecordsG40
import Derived.Test.YthmihglfffeedaaGreatDoorFnRecordsG44
import Derived.Test.YthmihglfffeedaaGreatDoorFnRecordsG39
import Derived.Test.YthmihglfffeedaaGreatDoorFnRecordsG43
import Derived.Test.YthmihglfffeedaaGreatDoorFnRecordsG18
import Derived.Deep.Cut
namespace Go.Proofs.YthmihglfffeedaaGreatDoor
open Go.RowKit
set_option linter.unusedVariables false

theorem rrSame_one {r : Rec} (h : rrOk r = true) : rrSame r r = true := by
 unfold rrSame
 rw [h, cmpR_self]
 rfl
theorem byt8 {l : List Int} (h : Byt l) : Bytes8 l := bytes8_of h
theorem rrGet_has {B : Nat} {v : Value} {l : List Int} (p : Int) {w : World} (h : Own B 5 w v l) (hl : l.length ≤ 1048576) (hp : p ≤ 9223372036854775807) (hb : Byt l) {r : Rec} {x : Int} (he : rrGet l p = (r, x)) :
  Calls Tryz.prog 9 #[v, .int .i64 p] w fun e w' => ∃ yn cyn yt cyt yx cyx yi cyi, e = .returned (.tuple #[.agg #[.slice yn r.name.length cyn, .int .i64 r.type, .int .i64 r.ttl, .int .i64 r.addr, .slice yt r.to.length cyt, .slice yx r.text.length cyx, .slice yi r.nums.length cyi], .int .i64 x]) ∧ HasR w' (.slice yn r.name.length cyn) (.slice yt r.to.length cyt) (.slice yx r.text.length cyx) (.slice yi r.nums.length cyi) r ∧ Below w.heap.size w w' := by
 refine (implRrGet_own p h hl hp (byt8 hb)).mono ?_
 rw [he]
 rintro e w' ⟨vn, vt, vx, vi, rfl, ho, hb⟩
 have hr := ho.hasR
 obtain ⟨x1, y1, rfl, _⟩ := hr.name.form
 obtain ⟨x2, y2, rfl, _⟩ := hr.to.form
 obtain ⟨x3, y3, rfl, _⟩ := hr.text.form
 obtain ⟨x4, y4, rfl, _⟩ := hr.nums.form
 exact ⟨x1, y1, x2, y2, x3, y3, x4, y4, rfl, hr, hb⟩
theorem dataGet_has {B : Nat} {v : Value} {r : Rec} {w : World} (h : Own B 5 w v (dataB r)) (hok : rrOk r = true) (h8 : Byt r.text) :
  Calls Tryz.prog 11 #[.int .i64 r.type, v, .int .i64 0, .int .i64 (dataB r).length] w fun e w' => ∃ zn czn zt czt zx czx zi czi, e = .returned (.tuple #[.agg #[.slice zn 0 czn, .int .i64 r.type, .int .i64 0, .int .i64 r.addr, .slice zt r.to.length czt, .slice zx r.text.length czx, .slice zi r.nums.length czi], .bool true]) ∧ HasL w' (.slice zt r.to.length czt) r.to ∧ Has w' (.slice zx r.text.length czx) r.text ∧ Below w.heap.size w w' := by
 have hl := dataB_length hok
 have he := dataGet_mid [] [] hok (by simp; omega)
 simp only [List.nil_append, List.append_nil, List.length_nil] at he
 refine (implDataGet_own r.type 0 (dataB r).length h (by omega) (byt8 (dataB_byt hok h8))).mono ?_
 rw [show dataGet r.type (dataB r) 0 (dataB r).length = (bareR r, true) from he]
 rintro e w' ⟨vn, vt, vx, vi, rfl, ho, hb⟩
 have hr := ho.hasR
 obtain ⟨x1, y1, rfl, _⟩ := hr.name.form
 obtain ⟨x2, y2, rfl, _⟩ := hr.to.form
 obtain ⟨x3, y3, rfl, _⟩ := hr.text.form
 obtain ⟨x4, y4, rfl, _⟩ := hr.nums.form
 exact ⟨x1, y1, x2, y2, x3, y3, x4, y4, rfl, hr.to, hr.text, hb⟩

set_option maxHeartbeats 8000000 in
set_option maxRecDepth 100000 in
theorem lawRecords (a : Option Addr) (cap : Nat) (l : List Int) (w : World) (hL : Lies w a l) (hb : ∀ k, 0 ≤ l.getD k 0 ∧ l.getD k 0 ≤ 255) (hm : l.length ≤ maxLen) (ht : Pow10 w) :
  Calls Tryz.prog 3 #[.slice a l.length cap] w fun e w' => e = .returned (.bool true) ∧ Below w.heap.size w w' := by
 have HD := UC (drawRrPut_any (cap := cap) l hL rfl hb hm)
 have HGET := UC (fun (w : World) (hL : Lies w a l) => drawRrGet_any (cap := cap) l hL rfl hb hm)
 have L := UC hL
 have HT := UC ht
 clear hL hb hm ht
 have bb := Below.refl w.heap.size w
 go_enter Tryz.func3, Tryz.ntmps3
 go_wp2_with fail
 refine (UB HD).mono ?_
 rintro e w1 ⟨vb, m, vn, vt, vx, vi, r, rfl, ob, hm2, hmb, HR, h8, hd, b1⟩
 clear HD
 obtain ⟨ba, bc, rfl, _⟩ := ob.lies
 obtain ⟨xn, cxn, rfl, _⟩ := HR.name.form
 obtain ⟨xt, cxt, rfl, _⟩ := HR.to.form
 obtain ⟨xx, cxx, rfl, _⟩ := HR.text.form
 obtain ⟨xi, cxi, rfl, _⟩ := HR.nums.form
 replace HR := UC HR
 have OB := UC ob
 clear ob hd
 replace bb := UG bb b1
 replace L := UC ((UB L).below b1)
 replace HT := UC ((UB HT).below b1)
 have z1 := b1.size
 clear b1
 have ba := UI (w := w1) (.cells #[.slice xn r.name.length cxn, .int .i64 r.type, .int .i64 r.ttl, .int .i64 r.addr, .slice xt r.to.length cxt, .slice xx r.text.length cxx, .slice xi r.nums.length cxi] 28)
 have KA := UC (heap_alloc_new w1 (.cells #[.slice xn r.name.length cxn, .int .i64 r.type, .int .i64 r.ttl, .int .i64 r.addr, .slice xt r.to.length cxt, .slice xx r.text.length cxx, .slice xi r.nums.length cxi] 28))
 replace bb := UG bb ba
 replace L := UC ((UB L).below ba)
 replace HT := UC ((UB HT).below ba)
 replace HR := UC ((UB HR).below ba)
 replace OB := UC ((UB OB).below ba)
 have z2 := ba.size
 clear ba
 have HPUT := UC (implRrPut_has (vb := .slice ba m.length bc) (l := m) (UB OB).has (by omega) (UB HR))
 have HOA := UC (show ∀ w : World, HasR w (.slice xn r.name.length cxn) (.slice xt r.to.length cxt) (.slice xx r.text.length cxx) (.slice xi r.nums.length cxi) r → Calls Tryz.prog 6 #[.agg #[.slice xn r.name.length cxn, .int .i64 r.type, .int .i64 r.ttl, .int .i64 r.addr, .slice xt r.to.length cxt, .slice xx r.text.length cxx, .slice xi r.nums.length cxi]] w fun e w' => e = .returned (.bool (rrOk r)) ∧ Below w.heap.size w w' from fun w h => specRrOk_has h)
 have HOB := UC (show ∀ w : World, HasR w (.slice xn r.name.length cxn) (.slice xt r.to.length cxt) (.slice xx r.text.length cxx) (.slice xi r.nums.length cxi) r → Calls Tryz.prog 7 #[.agg #[.slice xn r.name.length cxn, .int .i64 r.type, .int .i64 r.ttl, .int .i64 r.addr, .slice xt r.to.length cxt, .slice xx r.text.length cxx, .slice xi r.nums.length cxi]] w fun e w' => e = .returned (.bool (rrOk r)) ∧ Below w.heap.size w w' from fun w h => implRrOk_has h)
 obtain ⟨n, hn⟩ : ∃ n, n = (rrText r).length := ⟨_, rfl⟩
 have HTX := UC (show ∀ w : World, HasR w (.slice xn r.name.length cxn) (.slice xt r.to.length cxt) (.slice xx r.text.length cxx) (.slice xi r.nums.length cxi) r → Pow10 w → Calls Tryz.prog 8 #[.agg #[.slice xn r.name.length cxn, .int .i64 r.type, .int .i64 r.ttl, .int .i64 r.addr, .slice xt r.to.length cxt, .slice xx r.text.length cxx, .slice xi r.nums.length cxi]] w fun e w' => ∃ ta tc, e = .returned (.slice ta n tc) ∧ Below w.heap.size w w' from fun w h hp => (implRrText_has h h8 hp).mono (fun e w' ⟨v', e1, ho, hb⟩ => by
  obtain ⟨ta, tc, rfl, _⟩ := ho.has.form
  exact ⟨ta, tc, by rw [hn]; exact e1, hb⟩))
 have HMB := UC hmb
 have H8 := UC h8
 obtain ⟨d0, d1, d2, d3, d4, d5, d6⟩ := UJ (UB KA)
 go_wp2_with fail
 clear d0 d1 d2 d3 d4 d5 d6
 generalize w1.alloc (.cells #[.slice xn r.name.length cxn, .int .i64 r.type, .int .i64 r.ttl, .int .i64 r.addr, .slice xt r.to.length cxt, .slice xx r.text.length cxx, .slice xi r.nums.length cxi] 28) = W1 at *
 cases hok : rrOk r with
 | false =>
  rw [rrPut_no hok] at HPUT
  rw [hok] at HOA HOB
  have hn0 : n = 0 := by rw [hn, rrText_no hok]; rfl
  subst hn0
  clear hn
  refine (UB HPUT).mono ?_
  rintro e w3 ⟨vX, rfl, ox, b3⟩
  obtain ⟨xa, xc, rfl, _⟩ := ox.lies
  clear ox HPUT
  replace bb := UG bb b3
  replace L := UC ((UB L).below b3)
  replace HT := UC ((UB HT).below b3)
  replace HR := UC ((UB HR).below b3)
  replace OB := UC ((UB OB).below b3)
  replace KA := UC (UE b3 (UB KA))
  have z4 := b3.size
  clear b3
  obtain ⟨KA_0, KA_1, KA_2, KA_3, KA_4, KA_5, KA_6⟩ := UJ (UB KA)
  go_wp2_with fail
  clear KA_0 KA_1 KA_2 KA_3 KA_4 KA_5 KA_6
  refine (UB HOA _ (UB HR)).mono ?_
  rintro e w5 ⟨rfl, b4⟩
  replace bb := UG bb b4
  replace L := UC ((UB L).below b4)
  replace HT := UC ((UB HT).below b4)
  replace HR := UC ((UB HR).below b4)
  replace OB := UC ((UB OB).below b4)
  replace KA := UC (UE b4 (UB KA))
  have z6 := b4.size
  clear b4
  obtain ⟨KA_0, KA_1, KA_2, KA_3, KA_4, KA_5, KA_6⟩ := UJ (UB KA)
  go_wp2_with fail
  clear KA_0 KA_1 KA_2 KA_3 KA_4 KA_5 KA_6
  refine (UB HOB _ (UB HR)).mono ?_
  rintro e w7 ⟨rfl, b5⟩
  replace bb := UG bb b5
  replace L := UC ((UB L).below b5)
  replace HT := UC ((UB HT).below b5)
  replace HR := UC ((UB HR).below b5)
  replace OB := UC ((UB OB).below b5)
  replace KA := UC (UE b5 (UB KA))
  have z8 := b5.size
  clear b5
  obtain ⟨KA_0, KA_1, KA_2, KA_3, KA_4, KA_5, KA_6⟩ := UJ (UB KA)
  go_wp2_with fail
  clear KA_0 KA_1 KA_2 KA_3 KA_4 KA_5 KA_6
  refine (UB HTX _ (UB HR) (UB HT)).mono ?_
  rintro e w9 ⟨ta, tc, rfl, b6⟩
  replace bb := UG bb b6
  replace L := UC ((UB L).below b6)
  replace HT := UC ((UB HT).below b6)
  replace HR := UC ((UB HR).below b6)
  replace OB := UC ((UB OB).below b6)
  replace KA := UC (UE b6 (UB KA))
  have z10 := b6.size
  clear b6
  clear HOA HOB HTX HMB H8
  clear HR OB KA
  go_wp2_with fail
  refine (UB HGET _ (UB L)).mono ?_
  rintro e w11 ⟨vb2, m2, p2, rfl, ob2, hm2b, hmb2, hp0, hp1, b2⟩
  obtain ⟨ba2, bc2, rfl, _⟩ := ob2.lies
  replace ob2 := UC (ob2.below (Below.refl _ _))
  replace bb := UG bb b2
  replace L := UC ((UB L).below b2)
  replace HT := UC ((UB HT).below b2)
  have z12 := b2.size
  clear b2
  obtain ⟨r2, st, hst⟩ : ∃ r2 st, rrGet m2 p2 = (r2, st) := ⟨_, _, rfl⟩
  have htold := rrGet_told m2 p2
  rw [hst] at htold
  simp only at htold
  have HG2 := UC (rrGet_has p2 (UB ob2) (by omega) (by omega) hmb2 hst)
  clear hst hmb2 HGET L HT ob2
  have HQ := UC (show ∀ (w : World) (vn vt vx vi : Value), HasR w vn vt vx vi r2 → Calls Tryz.prog 7 #[.agg #[vn, .int .i64 r2.type, .int .i64 r2.ttl, .int .i64 r2.addr, vt, vx, vi]] w fun e w' => e = .returned (.bool (rrOk r2)) ∧ Below w.heap.size w w' from fun w vn vt vx vi h => implRrOk_has h)
  go_wp2_with fail
  refine (UB HG2).mono ?_
  rintro e w13 ⟨yn, cyn, yt, cyt, yx, cyx, yi, cyi, rfl, hy, b3⟩
  replace hy := UC hy
  replace bb := UG bb b3
  have z14 := b3.size
  clear b3
  have ba := UI (w := w13) (.cells #[.slice yn r2.name.length cyn, .int .i64 r2.type, .int .i64 r2.ttl, .int .i64 r2.addr, .slice yt r2.to.length cyt, .slice yx r2.text.length cyx, .slice yi r2.nums.length cyi] 28)
  have KY := UC (heap_alloc_new w13 (.cells #[.slice yn r2.name.length cyn, .int .i64 r2.type, .int .i64 r2.ttl, .int .i64 r2.addr, .slice yt r2.to.length cyt, .slice yx r2.text.length cyx, .slice yi r2.nums.length cyi] 28))
  replace bb := UG bb ba
  replace hy := UC ((UB hy).below ba)
  have z15 := ba.size
  clear ba
  go_wp2_with fail
  generalize w13.alloc (.cells #[.slice yn r2.name.length cyn, .int .i64 r2.type, .int .i64 r2.ttl, .int .i64 r2.addr, .slice yt r2.to.length cyt, .slice yx r2.text.length cyx, .slice yi r2.nums.length cyi] 28) = W15 at *
  refine (names_any _).mono ?_
  rintro e w16 ⟨rfl, b4⟩
  replace bb := UG bb b4
  replace hy := UC ((UB hy).below b4)
  replace KY := UC (UE b4 (UB KY))
  have z17 := b4.size
  clear b4
  by_cases hneg : st < 0
  ·go_wp2_with fail
   go_ret
   exact ⟨rfl, bb⟩
  ·have hq : rrOk r2 = true ∧ st ≤ m2.length := by rcases htold with h | h; exact absurd h hneg; exact h
   rw [hq.1] at HQ
   have hq2 := hq.2
   clear hq htold
   obtain ⟨KY_0, KY_1, KY_2, KY_3, KY_4, KY_5, KY_6⟩ := UJ (UB KY)
   go_wp2_with fail
   clear KY_0 KY_1 KY_2 KY_3 KY_4 KY_5 KY_6
   refine (UB HQ _ _ _ _ _ (UB hy)).mono ?_
   rintro e w18 ⟨rfl, b5⟩
   replace bb := UG bb b5
   replace hy := UC ((UB hy).below b5)
   replace KY := UC (UE b5 (UB KY))
   have z19 := b5.size
   clear b5
   go_wp2_with fail
   go_ret
   exact ⟨rfl, bb⟩
 | true =>
  rw [rrPut_yes hok] at HPUT
  rw [hok] at HOA HOB
  have hn1 : 0 < n := by rw [hn]; exact rrText_some hok
  clear hn
  have hxl := rrB_length m hok
  have hxb : Byt (rrB m r) := classB_byt 1 (UB HMB) hok (UB H8)
  have HGR := UC (show ∀ (w : World) (B : Nat) (v : Value), Own B 5 w v (rrB m r) → Calls Tryz.prog 9 #[v, .int .i64 m.length] w fun e w' => ∃ yn cyn yt cyt yx cyx yi cyi, e = .returned (.tuple #[.agg #[.slice yn r.name.length cyn, .int .i64 r.type, .int .i64 r.ttl, .int .i64 r.addr, .slice yt r.to.length cyt, .slice yx r.text.length cyx, .slice yi r.nums.length cyi], .int .i64 (rrB m r).length]) ∧ HasR w' (.slice yn r.name.length cyn) (.slice yt r.to.length cyt) (.slice yx r.text.length cyx) (.slice yi r.nums.length cyi) r ∧ Below w.heap.size w w' from fun w B v h => rrGet_has _ h (by omega) (by omega) hxb (rrGet_put m hok (by omega)))
  have HDP := UC (show ∀ w : World, HasR w (.slice xn r.name.length cxn) (.slice xt r.to.length cxt) (.slice xx r.text.length cxx) (.slice xi r.nums.length cxi) r → Calls Tryz.prog 10 #[.agg #[.slice xn r.name.length cxn, .int .i64 r.type, .int .i64 r.ttl, .int .i64 r.addr, .slice xt r.to.length cxt, .slice xx r.text.length cxx, .slice xi r.nums.length cxi]] w fun e w' => ∃ v', e = .returned (.tuple #[v', .bool true]) ∧ Own w.heap.size 5 w' v' (dataB r) ∧ Below w.heap.size w w' from fun w h => by
   have := implDataPut_has h
   rwa [dataPut_yes hok] at this)
  have HDG := UC (show ∀ (w : World) (B : Nat) (v : Value), Own B 5 w v (dataB r) → _ from fun w B v h => dataGet_has h hok (UB H8))
  have HSM := UC (rrSame_one hok)
  have HTO := UC (rrOk_parts hok).2.1
  generalize rrB m r = X at *
  generalize dataB r = D at *
  clear hxb hok
  refine (UB HPUT).mono ?_
  rintro e w3 ⟨vX, rfl, ox, b3⟩
  obtain ⟨xa, xc, rfl, _⟩ := ox.lies
  have OX := UC ox
  clear ox HPUT
  replace bb := UG bb b3
  replace L := UC ((UB L).below b3)
  replace HT := UC ((UB HT).below b3)
  replace HR := UC ((UB HR).below b3)
  replace OB := UC ((UB OB).below b3)
  replace KA := UC (UE b3 (UB KA))
  have z4 := b3.size
  clear b3
  obtain ⟨KA_0, KA_1, KA_2, KA_3, KA_4, KA_5, KA_6⟩ := UJ (UB KA)
  go_wp2_with fail
  clear KA_0 KA_1 KA_2 KA_3 KA_4 KA_5 KA_6
  refine (UB HOA _ (UB HR)).mono ?_
  rintro e w5 ⟨rfl, b4⟩
  replace bb := UG bb b4
  replace L := UC ((UB L).below b4)
  replace HT := UC ((UB HT).below b4)
  replace HR := UC ((UB HR).below b4)
  replace OB := UC ((UB OB).below b4)
  replace KA := UC (UE b4 (UB KA))
  replace OX := UC ((UB OX).below b4)
  have z6 := b4.size
  clear b4
  obtain ⟨KA_0, KA_1, KA_2, KA_3, KA_4, KA_5, KA_6⟩ := UJ (UB KA)
  go_wp2_with fail
  clear KA_0 KA_1 KA_2 KA_3 KA_4 KA_5 KA_6
  refine (UB HOB _ (UB HR)).mono ?_
  rintro e w7 ⟨rfl, b5⟩
  replace bb := UG bb b5
  replace L := UC ((UB L).below b5)
  replace HT := UC ((UB HT).below b5)
  replace HR := UC ((UB HR).below b5)
  replace OB := UC ((UB OB).below b5)
  replace KA := UC (UE b5 (UB KA))
  replace OX := UC ((UB OX).below b5)
  have z8 := b5.size
  clear b5
  obtain ⟨KA_0, KA_1, KA_2, KA_3, KA_4, KA_5, KA_6⟩ := UJ (UB KA)
  go_wp2_with fail
  clear KA_0 KA_1 KA_2 KA_3 KA_4 KA_5 KA_6
  refine (UB HTX _ (UB HR) (UB HT)).mono ?_
  rintro e w9 ⟨ta, tc, rfl, b6⟩
  replace bb := UG bb b6
  replace L := UC ((UB L).below b6)
  replace HT := UC ((UB HT).below b6)
  replace HR := UC ((UB HR).below b6)
  replace OB := UC ((UB OB).below b6)
  replace KA := UC (UE b6 (UB KA))
  replace OX := UC ((UB OX).below b6)
  have z10 := b6.size
  clear b6
  clear HOA HOB HTX
  go_wp2_with fail
  refine (UB HGR _ _ _ (UB OX)).mono ?_
  rintro e w11 ⟨yn, cyn, yt, cyt, yx, cyx, yi, cyi, rfl, hy, b7⟩
  replace hy := UC hy
  clear HGR
  replace bb := UG bb b7
  replace L := UC ((UB L).below b7)
  replace HT := UC ((UB HT).below b7)
  replace HR := UC ((UB HR).below b7)
  replace OB := UC ((UB OB).below b7)
  replace KA := UC (UE b7 (UB KA))
  replace OX := UC ((UB OX).below b7)
  have z12 := b7.size
  clear b7
  have ba := UI (w := w11) (.cells #[.slice yn r.name.length cyn, .int .i64 r.type, .int .i64 r.ttl, .int .i64 r.addr, .slice yt r.to.length cyt, .slice yx r.text.length cyx, .slice yi r.nums.length cyi] 28)
  have KY := UC (heap_alloc_new w11 (.cells #[.slice yn r.name.length cyn, .int .i64 r.type, .int .i64 r.ttl, .int .i64 r.addr, .slice yt r.to.length cyt, .slice yx r.text.length cyx, .slice yi r.nums.length cyi] 28))
  replace bb := UG bb ba
  replace L := UC ((UB L).below ba)
  replace HT := UC ((UB HT).below ba)
  replace HR := UC ((UB HR).below ba)
  replace OB := UC ((UB OB).below ba)
  replace KA := UC (UE ba (UB KA))
  replace OX := UC ((UB OX).below ba)
  replace hy := UC ((UB hy).below ba)
  have z13 := ba.size
  clear ba
  obtain ⟨KA_0, KA_1, KA_2, KA_3, KA_4, KA_5, KA_6⟩ := UJ (UB KA)
  go_wp2_with fail
  clear KA_0 KA_1 KA_2 KA_3 KA_4 KA_5 KA_6
  generalize w11.alloc (.cells #[.slice yn r.name.length cyn, .int .i64 r.type, .int .i64 r.ttl, .int .i64 r.addr, .slice yt r.to.length cyt, .slice yx r.text.length cyx, .slice yi r.nums.length cyi] 28) = W13 at *
  refine (UB HDP _ (UB HR)).mono ?_
  rintro e w14 ⟨vd, rfl, od, b8⟩
  obtain ⟨da, dc, rfl, _⟩ := od.lies
  replace od := UC od
  clear HDP
  replace bb := UG bb b8
  replace L := UC ((UB L).below b8)
  replace HT := UC ((UB HT).below b8)
  replace HR := UC ((UB HR).below b8)
  replace OB := UC ((UB OB).below b8)
  replace KA := UC (UE b8 (UB KA))
  replace OX := UC ((UB OX).below b8)
  replace hy := UC ((UB hy).below b8)
  replace KY := UC (UE b8 (UB KY))
  have z15 := b8.size
  clear b8
  obtain ⟨KA_0, KA_1, KA_2, KA_3, KA_4, KA_5, KA_6⟩ := UJ (UB KA)
  go_wp2_with fail
  clear KA_0 KA_1 KA_2 KA_3 KA_4 KA_5 KA_6
  refine (UB HDG _ _ _ (UB od)).mono ?_
  rintro e w16 ⟨zn, czn, zt, czt, zx, czx, zi, czi, rfl, hz1, hz2, b9⟩
  replace hz1 := UC hz1
  replace hz2 := UC hz2
  clear HDG
  replace bb := UG bb b9
  replace L := UC ((UB L).below b9)
  replace HT := UC ((UB HT).below b9)
  replace HR := UC ((UB HR).below b9)
  replace OB := UC ((UB OB).below b9)
  replace KA := UC (UE b9 (UB KA))
  replace OX := UC ((UB OX).below b9)
  replace hy := UC ((UB hy).below b9)
  replace KY := UC (UE b9 (UB KY))
  replace od := UC ((UB od).below b9)
  have z17 := b9.size
  clear b9
  have ba := UI (w := w16) (.cells #[.slice zn 0 czn, .int .i64 r.type, .int .i64 0, .int .i64 r.addr, .slice zt r.to.length czt, .slice zx r.text.length czx, .slice zi r.nums.length czi] 28)
  have KZ := UC (heap_alloc_new w16 (.cells #[.slice zn 0 czn, .int .i64 r.type, .int .i64 0, .int .i64 r.addr, .slice zt r.to.length czt, .slice zx r.text.length czx, .slice zi r.nums.length czi] 28))
  replace bb := UG bb ba
  replace L := UC ((UB L).below ba)
  replace HT := UC ((UB HT).below ba)
  replace HR := UC ((UB HR).below ba)
  replace OB := UC ((UB OB).below ba)
  replace KA := UC (UE ba (UB KA))
  replace OX := UC ((UB OX).below ba)
  replace hy := UC ((UB hy).below ba)
  replace KY := UC (UE ba (UB KY))
  replace od := UC ((UB od).below ba)
  replace hz1 := UC ((UB hz1).below ba)
  replace hz2 := UC ((UB hz2).below ba)
  have z18 := ba.size
  clear ba
  go_upto_region 9 with fail
  generalize w16.alloc (.cells #[.slice zn 0 czn, .int .i64 r.type, .int .i64 0, .int .i64 r.addr, .slice zt r.to.length czt, .slice zx r.text.length czx, .slice zi r.nums.length czi] 28) = W18 at *
  have ba := UI (w := W18) (.cells #[.slice yn r.name.length cyn, .int .i64 r.type, .int .i64 r.ttl, .int .i64 r.addr, .slice yt r.to.length cyt, .slice yx r.text.length cyx, .slice yi r.nums.length cyi] 28)
  have KA1 := UE ba (UB KA)
  have KYW := UC (UB KY)
  clear ba
  obtain ⟨hsz, k1, k2⟩ := box2 W18 (.cells #[.slice yn r.name.length cyn, .int .i64 r.type, .int .i64 r.ttl, .int .i64 r.addr, .slice yt r.to.length cyt, .slice yx r.text.length cyx, .slice yi r.nums.length cyi] 28) #[.slice xn r.name.length cxn, .int .i64 r.type, .int .i64 r.ttl, .int .i64 r.addr, .slice xt r.to.length cxt, .slice xx r.text.length cxx, .slice xi r.nums.length cxi] 28
  have ba := below2 W18 (.cells #[.slice yn r.name.length cyn, .int .i64 r.type, .int .i64 r.ttl, .int .i64 r.addr, .slice yt r.to.length cyt, .slice yx r.text.length cyx, .slice yi r.nums.length cyi] 28) (.cells #[.slice xn r.name.length cxn, .int .i64 r.type, .int .i64 r.ttl, .int .i64 r.addr, .slice xt r.to.length cxt, .slice xx r.text.length cxx, .slice xi r.nums.length cxi] 28)
  have K1 := UC k1
  have K2 := UC k2
  clear hsz k1 k2
  replace bb := UG bb ba
  replace L := UC ((UB L).below ba)
  replace HT := UC ((UB HT).below ba)
  replace HR := UC ((UB HR).below ba)
  replace OB := UC ((UB OB).below ba)
  replace KA := UC (UE ba (UB KA))
  replace OX := UC ((UB OX).below ba)
  replace hy := UC ((UB hy).below ba)
  replace KY := UC (UE ba (UB KY))
  replace od := UC ((UB od).below ba)
  replace hz1 := UC ((UB hz1).below ba)
  replace hz2 := UC ((UB hz2).below ba)
  replace KZ := UC (UE ba (UB KZ))
  have z19 := ba.size
  clear ba
  obtain ⟨d0, d1, d2, d3, d4, d5, d6⟩ := UJ KA1
  obtain ⟨f0, f1, f2, f3, f4, f5, f6⟩ := UJ (UB KYW)
  go_wp2_with fail
  clear d0 d1 d2 d3 d4 d5 d6 f0 f1 f2 f3 f4 f5 f6 KA1 KYW
  generalize (W18.alloc (.cells #[.slice yn r.name.length cyn, .int .i64 r.type, .int .i64 r.ttl, .int .i64 r.addr, .slice yt r.to.length cyt, .slice yx r.text.length cyx, .slice yi r.nums.length cyi] 28)).alloc (.cells #[.slice xn r.name.length cxn, .int .i64 r.type, .int .i64 r.ttl, .int .i64 r.addr, .slice xt r.to.length cxt, .slice xx r.text.length cxx, .slice xi r.nums.length cxi] 28) = W19 at *
  refine (sameRrs_one (UB K1) (UB K2) (UB hy) (UB HR) (UB HSM)).mono ?_
  rintro e w20 ⟨rfl, b10⟩
  clear HSM
  replace bb := UG bb b10
  replace L := UC ((UB L).below b10)
  replace HT := UC ((UB HT).below b10)
  replace HR := UC ((UB HR).below b10)
  replace OB := UC ((UB OB).below b10)
  replace KA := UC (UE b10 (UB KA))
  replace OX := UC ((UB OX).below b10)
  replace hy := UC ((UB hy).below b10)
  replace KY := UC (UE b10 (UB KY))
  replace od := UC ((UB od).below b10)
  replace hz1 := UC ((UB hz1).below b10)
  replace hz2 := UC ((UB hz2).below b10)
  replace KZ := UC (UE b10 (UB KZ))
  replace K1 := UC (UE b10 (UB K1))
  replace K2 := UC (UE b10 (UB K2))
  have z21 := b10.size
  clear b10
  clear K1 K2
  obtain ⟨KA_0, KA_1, KA_2, KA_3, KA_4, KA_5, KA_6⟩ := UJ (UB KA)
  obtain ⟨KZ_0, KZ_1, KZ_2, KZ_3, KZ_4, KZ_5, KZ_6⟩ := UJ (UB KZ)
  go_wp2_with fail
  clear KA_0 KA_1 KA_2 KA_3 KA_4 KA_5 KA_6 KZ_0 KZ_1 KZ_2 KZ_3 KZ_4 KZ_5 KZ_6
  refine (sameName_has (UB hz1) (UB HR).to).mono ?_
  rw [decide_eq_true rfl]
  rintro e w22 ⟨rfl, b11⟩
  replace bb := UG bb b11
  replace L := UC ((UB L).below b11)
  replace HT := UC ((UB HT).below b11)
  replace HR := UC ((UB HR).below b11)
  replace OB := UC ((UB OB).below b11)
  replace KA := UC (UE b11 (UB KA))
  replace OX := UC ((UB OX).below b11)
  replace hy := UC ((UB hy).below b11)
  replace KY := UC (UE b11 (UB KY))
  replace od := UC ((UB od).below b11)
  replace hz1 := UC ((UB hz1).below b11)
  replace hz2 := UC ((UB hz2).below b11)
  replace KZ := UC (UE b11 (UB KZ))
  have z23 := b11.size
  clear b11
  obtain ⟨KA_0, KA_1, KA_2, KA_3, KA_4, KA_5, KA_6⟩ := UJ (UB KA)
  obtain ⟨KZ_0, KZ_1, KZ_2, KZ_3, KZ_4, KZ_5, KZ_6⟩ := UJ (UB KZ)
  go_wp2_with fail
  clear KA_0 KA_1 KA_2 KA_3 KA_4 KA_5 KA_6 KZ_0 KZ_1 KZ_2 KZ_3 KZ_4 KZ_5 KZ_6
  refine (same_has (UB hz2) (UB HR).text (UB H8) (UB H8)).mono ?_
  rw [decide_eq_true rfl]
  rintro e wq ⟨rfl, rfl⟩
  obtain ⟨KA_0, KA_1, KA_2, KA_3, KA_4, KA_5, KA_6⟩ := UJ (UB KA)
  go_wp2_with fail
  clear KA_0 KA_1 KA_2 KA_3 KA_4 KA_5 KA_6
  refine (implTypeOk_any r.type _).mono ?_
  rw [UB HTO]
  rintro e wq ⟨rfl, rfl⟩
  clear HTO H8 HMB hz1 hz2 od OX KY KZ hy
  clear HR OB KA
  go_wp2_with fail
  refine (UB HGET _ (UB L)).mono ?_
  rintro e w24 ⟨vb2, m2, p2, rfl, ob2, hm2b, hmb2, hp0, hp1, b2⟩
  obtain ⟨ba2, bc2, rfl, _⟩ := ob2.lies
  replace ob2 := UC (ob2.below (Below.refl _ _))
  replace bb := UG bb b2
  replace L := UC ((UB L).below b2)
  replace HT := UC ((UB HT).below b2)
  have z25 := b2.size
  clear b2
  obtain ⟨r2, st, hst⟩ : ∃ r2 st, rrGet m2 p2 = (r2, st) := ⟨_, _, rfl⟩
  have htold := rrGet_told m2 p2
  rw [hst] at htold
  simp only at htold
  have HG2 := UC (rrGet_has p2 (UB ob2) (by omega) (by omega) hmb2 hst)
  clear hst hmb2 HGET L HT ob2
  have HQ := UC (show ∀ (w : World) (vn vt vx vi : Value), HasR w vn vt vx vi r2 → Calls Tryz.prog 7 #[.agg #[vn, .int .i64 r2.type, .int .i64 r2.ttl, .int .i64 r2.addr, vt, vx, vi]] w fun e w' => e = .returned (.bool (rrOk r2)) ∧ Below w.heap.size w w' from fun w vn vt vx vi h => implRrOk_has h)
  go_wp2_with fail
  refine (UB HG2).mono ?_
  rintro e w26 ⟨yn, cyn, yt, cyt, yx, cyx, yi, cyi, rfl, hy, b3⟩
  replace hy := UC hy
  replace bb := UG bb b3
  have z27 := b3.size
  clear b3
  have ba := UI (w := w26) (.cells #[.slice yn r2.name.length cyn, .int .i64 r2.type, .int .i64 r2.ttl, .int .i64 r2.addr, .slice yt r2.to.length cyt, .slice yx r2.text.length cyx, .slice yi r2.nums.length cyi] 28)
  have KY := UC (heap_alloc_new w26 (.cells #[.slice yn r2.name.length cyn, .int .i64 r2.type, .int .i64 r2.ttl, .int .i64 r2.addr, .slice yt r2.to.length cyt, .slice yx r2.text.length cyx, .slice yi r2.nums.length cyi] 28))
  replace bb := UG bb ba
  replace hy := UC ((UB hy).below ba)
  have z28 := ba.size
  clear ba
  go_wp2_with fail
  generalize w26.alloc (.cells #[.slice yn r2.name.length cyn, .int .i64 r2.type, .int .i64 r2.ttl, .int .i64 r2.addr, .slice yt r2.to.length cyt, .slice yx r2.text.length cyx, .slice yi r2.nums.length cyi] 28) = W28 at *
  refine (names_any _).mono ?_
  rintro e w29 ⟨rfl, b4⟩
  replace bb := UG bb b4
  replace hy := UC ((UB hy).below b4)
  replace KY := UC (UE b4 (UB KY))
  have z30 := b4.size
  clear b4
  by_cases hneg : st < 0
  ·go_wp2_with fail
   go_ret
   exact ⟨rfl, bb⟩
  ·have hq : rrOk r2 = true ∧ st ≤ m2.length := by rcases htold with h | h; exact absurd h hneg; exact h
   rw [hq.1] at HQ
   have hq2 := hq.2
   clear hq htold
   obtain ⟨KY_0, KY_1, KY_2, KY_3, KY_4, KY_5, KY_6⟩ := UJ (UB KY)
   go_wp2_with fail
   clear KY_0 KY_1 KY_2 KY_3 KY_4 KY_5 KY_6
   refine (UB HQ _ _ _ _ _ (UB hy)).mono ?_
   rintro e w31 ⟨rfl, b5⟩
   replace bb := UG bb b5
   replace hy := UC ((UB hy).below b5)
   replace KY := UC (UE b5 (UB KY))
   have z32 := b5.size
   clear b5
   go_wp2_with fail
   go_ret
   exact ⟨rfl, bb⟩
end Go.Proofs.YthmihglfffeedaaGreatDoor
