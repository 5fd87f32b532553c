/-
  Contract of the specification's l5add.
-/
import Derived.Test.YtfneahdnpmamkaaGreatFnOwnersG16
namespace Go.Proofs.YtfneahdnpmamkaaGreat
open Go.RowKit
set_option linter.unusedVariables false

theorem Bv {w W wI w' : World} {oa : Option Addr} {oc : Nat} {o : List (List Int)} {v v' : Value} {l : List Rec} {xs : List Value} {r : Rec} {vn vt vx vi : Value} (bo : Obj)
  (ko : wI.heap[w.heap.size + 3]? = some (.cells #[.slice oa o.length oc, v] 28)) (hb : Below (w.heap.size + 3) W wI) (zW : w.heap.size + 4 ≤ W.heap.size) (hxo : wI.ownsRow (w.heap.size + 4) 39 7 v l.length xs)
  (hxs : ∀ i, i < l.length → ∃ vn vt vx vi, (∀ j u, (Ah vn vt vx vi (l.getD i recZ))[j]? = some u → xs[i * 7 + j]? = some u) ∧ HasR w vn vt vx vi (l.getD i recZ))
  (ow : w'.ownsRow (w.heap.size + 4) 39 7 v' (l.length + 1) (xs ++ Ah vn vt vx vi r)) (g : (wI.alloc bo).grownBy w' v.ownBlock) (hr : HasR w vn vt vx vi r) :
  w'.heap[w.heap.size + 3]? = some (.cells #[.slice oa o.length oc, v] 28) ∧ (w'.setCell ⟨w.heap.size + 3, 1, none⟩ v').heap[w.heap.size + 3]? = some (.cells #[.slice oa o.length oc, v'] 28) ∧
  RowS (w.heap.size + 4) 39 w (w'.setCell ⟨w.heap.size + 3, 1, none⟩ v') v' (l ++ [r]) ∧ Below (w.heap.size + 3) W (w'.setCell ⟨w.heap.size + 3, 1, none⟩ v') := by
 have by_ := UI (w := wI) bo
 have hxb := At hxo by_
 have kout := Aa g (UE by_ ko) (Dh hxb (UE by_ ko) (by decide))
 have z := hb.size
 have zy := by_.size
 have hb5 : Below (w.heap.size + 3) W w' := (hb.trans (by_.mono (by omega))).grown g (by omega) (fun q hq => by have := (World.ownsRow.lt hxb q hq).1; omega)
 exact ⟨kout, UV kout 1 v', (RowS.snoc hxo.1 hxs ow hr).off (Ab w' ⟨w.heap.size + 3, 1, none⟩ v') (by show w.heap.size + 3 < _; omega), hb5.setCell (by show w.heap.size + 3 ≤ w.heap.size + 3; omega) v'⟩

set_option maxHeartbeats 8000000 in
set_option maxRecDepth 100000 in
theorem Wp {vo vr un ut ux ui : Value} {o : List (List Int)} {rs : List Rec} {r : Rec} {w : World} (h : HasZ w vo vr o rs) (hx : HasR w un ut ux ui r) (h60 : rs.length ≤ 60) (hok : ∀ k, k < rs.length → rrOk (rs.getD k recZ) = true) (hrok : rrOk r = true) :
  Calls Tryz.prog 38 #[.agg #[vo, vr], .agg #[un, .int .i64 r.type, .int .i64 r.ttl, .int .i64 r.addr, ut, ux, ui]] w fun e w' => ∃ v', e = .returned (.agg #[vo, v']) ∧ HasZ w' vo v' o (addL r rs false) ∧ Below w.heap.size w w' := by
 obtain ⟨oa, oc, rfl, _⟩ := h.name.form
 obtain ⟨ra, rc, rfl, _⟩ := h.recs.form
 obtain ⟨una, unc, rfl, _⟩ := hx.name.form
 obtain ⟨uta, utc, rfl, _⟩ := hx.to.form
 obtain ⟨uxa, uxc, rfl, _⟩ := hx.text.form
 obtain ⟨uia, uic, rfl, _⟩ := hx.nums.form
 obtain ⟨hsz, k0, x0⟩ := box2 w (.cells #[.slice oa o.length oc, .slice ra rs.length rc] 28) #[.slice una r.name.length unc, .int .i64 r.type, .int .i64 r.ttl, .int .i64 r.addr, .slice uta r.to.length utc, .slice uxa r.text.length uxc, .slice uia r.nums.length uic] 39
 have b0 := Bl w (.cells #[.slice oa o.length oc, .slice ra rs.length rc] 28) (.cells #[.slice una r.name.length unc, .int .i64 r.type, .int .i64 r.ttl, .int .i64 r.addr, .slice uta r.to.length utc, .slice uxa r.text.length uxc, .slice uia r.nums.length uic] 39)
 have b1 := UI (w := (w.alloc (.cells #[.slice oa o.length oc, .slice ra rs.length rc] 28)).alloc (.cells #[.slice una r.name.length unc, .int .i64 r.type, .int .i64 r.ttl, .int .i64 r.addr, .slice uta r.to.length utc, .slice uxa r.text.length uxc, .slice uia r.nums.length uic] 39)) (.cells #[.slice none 0 0, .slice none 0 0] 28)
 have r0 := heap_alloc_new ((w.alloc (.cells #[.slice oa o.length oc, .slice ra rs.length rc] 28)).alloc (.cells #[.slice una r.name.length unc, .int .i64 r.type, .int .i64 r.ttl, .int .i64 r.addr, .slice uta r.to.length utc, .slice uxa r.text.length uxc, .slice uia r.nums.length uic] 39)) (.cells #[.slice none 0 0, .slice none 0 0] 28)
 have hs1 : (((w.alloc (.cells #[.slice oa o.length oc, .slice ra rs.length rc] 28)).alloc (.cells #[.slice una r.name.length unc, .int .i64 r.type, .int .i64 r.ttl, .int .i64 r.addr, .slice uta r.to.length utc, .slice uxa r.text.length uxc, .slice uia r.nums.length uic] 39)).alloc (.cells #[.slice none 0 0, .slice none 0 0] 28)).heap.size = w.heap.size + 3 := by rw [World.size_alloc, hsz]
 rw [hsz] at r0
 have b2 := UI (w := ((w.alloc (.cells #[.slice oa o.length oc, .slice ra rs.length rc] 28)).alloc (.cells #[.slice una r.name.length unc, .int .i64 r.type, .int .i64 r.ttl, .int .i64 r.addr, .slice uta r.to.length utc, .slice uxa r.text.length uxc, .slice uia r.nums.length uic] 39)).alloc (.cells #[.slice none 0 0, .slice none 0 0] 28)) (.cells #[.slice oa o.length oc, .slice none 0 0] 28)
 have t0 := heap_alloc_new (((w.alloc (.cells #[.slice oa o.length oc, .slice ra rs.length rc] 28)).alloc (.cells #[.slice una r.name.length unc, .int .i64 r.type, .int .i64 r.ttl, .int .i64 r.addr, .slice uta r.to.length utc, .slice uxa r.text.length uxc, .slice uia r.nums.length uic] 39)).alloc (.cells #[.slice none 0 0, .slice none 0 0] 28)) (.cells #[.slice oa o.length oc, .slice none 0 0] 28)
 have hs2 : ((((w.alloc (.cells #[.slice oa o.length oc, .slice ra rs.length rc] 28)).alloc (.cells #[.slice una r.name.length unc, .int .i64 r.type, .int .i64 r.ttl, .int .i64 r.addr, .slice uta r.to.length utc, .slice uxa r.text.length uxc, .slice uia r.nums.length uic] 39)).alloc (.cells #[.slice none 0 0, .slice none 0 0] 28)).alloc (.cells #[.slice oa o.length oc, .slice none 0 0] 28)).heap.size = w.heap.size + 4 := by rw [World.size_alloc, hs1]
 rw [hs1] at t0
 have b12 := UG b1 b2
 have bb := UG b0 b12
 have KZ := UC (UE b12 k0)
 have KR := UC (UE b12 x0)
 have KS := UC (UE b2 r0)
 have KO := UC t0
 have HE := UC h
 have HX0 := UC hx
 have HOK := UC hok
 obtain ⟨z0, z1⟩ := UM (UE b1 k0)
 have hend := Xr r rs
 clear h hx hok k0 x0 r0 t0 b0 b1 b2 b12 hsz hs1
 generalize hm : rs.length = m at *
 have HN := UC hm
 generalize hKP : addL r rs false = KP at *
 have HEND := UC hend
 clear hm hend hKP
 go_enter Tryz.func38, Tryz.ntmps38
 go_wp2_with fail
 clear z0 z1
 have zW : w.heap.size + 4 ≤ ((((w.alloc (.cells #[.slice oa o.length oc, .slice ra m rc] 28)).alloc (.cells #[.slice una r.name.length unc, .int .i64 r.type, .int .i64 r.ttl, .int .i64 r.addr, .slice uta r.to.length utc, .slice uxa r.text.length uxc, .slice uia r.nums.length uic] 39)).alloc (.cells #[.slice none 0 0, .slice none 0 0] 28)).alloc (.cells #[.slice oa o.length oc, .slice none 0 0] 28)).heap.size := Nat.le_of_eq hs2.symm
 clear hs2
 generalize (((w.alloc (.cells #[.slice oa o.length oc, .slice ra m rc] 28)).alloc (.cells #[.slice una r.name.length unc, .int .i64 r.type, .int .i64 r.ttl, .int .i64 r.addr, .slice uta r.to.length utc, .slice uxa r.text.length uxc, .slice uia r.nums.length uic] 39)).alloc (.cells #[.slice none 0 0, .slice none 0 0] 28)).alloc (.cells #[.slice oa o.length oc, .slice none 0 0] 28) = W at *
 go_loopw [6, 7] (fun put i wr => ∃ (k : Nat) (v : Value), k ≤ m ∧ i = .int .i64 k ∧ put = .bool (addK r rs k).2 ∧ wr.heap[w.heap.size + 3]? = some (.cells #[.slice oa o.length oc, v] 28) ∧ RowS (w.heap.size + 4) 39 w wr v (addK r rs k).1 ∧ Below (w.heap.size + 3) W wr) (fun _ i _ => m - (intOf i).toNat)
 case atStart => exact ⟨0, _, Nat.zero_le _, rfl, rfl, UB KO, RowS.nil _ _ _ _, Below.refl _ _⟩
 case round =>
  obtain ⟨k, v, hk, rfl, rfl, hout, hrow, hb⟩ := hrel
  have zw := hb.size
  have bw : Below w.heap.size w wr := bb.trans (hb.mono (by omega))
  have kz := (hb.block _ (by omega)).trans (UB KZ)
  obtain ⟨z0, z1⟩ := UM kz
  have hlen0 := Ru r rs k
  obtain ⟨va, vc, rfl⟩ := hrow.slice
  by_cases hlt : k < m
  ·obtain ⟨b, off, na, nc, ta, tc, xa, xc, ia, ic, rfl, hbl, hc, hu⟩ := (UB HE).recs.here (k := k) (by rw [UB HN]; exact hlt)
   have hrk := UB HOK k hlt
   have hstep : addK r rs (k + 1) = _ := addK.eq_2 r rs k
   have hxok := Ye hrok hrk
   generalize hrkk : rs.getD k recZ = rk at *
   generalize hA : addK r rs k = A at *
   obtain ⟨l0, p0⟩ := A
   dsimp only at hstep hrow hout hlen0
   have HC0 := UC (rfl : cmpR r rk = cmpR r rk)
   generalize hcc : cmpR r rk = c at hstep HC0
   replace HC0 := UC hcc
   have HSTEP := UC hstep
   have HXOK := UC hxok
   have HU0 := UC hu
   have HU := UC (hu.below bw)
   have HX := UC ((UB HX0).below bw)
   have HROW := UC hrow
   obtain ⟨xsW, hxW, _⟩ := hrow
   have HXW := UC hxW
   obtain ⟨c0, c1, c2, c3, c4, c5, c6⟩ := VH (UW hc hbl bw)
   have KRr := UC ((hb.block _ (by omega)).trans (UB KR))
   have bx := UI (w := wr) (.cells #[.slice na rk.name.length nc, .int .i64 rk.type, .int .i64 rk.ttl, .int .i64 rk.addr, .slice ta rk.to.length tc, .slice xa rk.text.length xc, .slice ia rk.nums.length ic] 39)
   have KX := UC (heap_alloc_new wr (.cells #[.slice na rk.name.length nc, .int .i64 rk.type, .int .i64 rk.ttl, .int .i64 rk.addr, .slice ta rk.to.length tc, .slice xa rk.text.length xc, .slice ia rk.nums.length ic] 39))
   obtain ⟨y0, y1, y2, y3, y4, y5, y6⟩ := UJ (UE bx (UB KRr))
   have CL := El (((UB HU).below bx).name) (((UB HX).below bx).name) (by have := (A2 hrk).1; have := (Ai this).1; omega) (by have := (A2 hrok).1; have := (Ai this).1; omega)
   have hkm : (k : Int) < m := by omega
   clear hc hu hrkk kz hstep hxok hcc hA hxW
   dsimp only
   by_cases hz : cmpN rk.name r.name = 0
   ·rw [hz] at CL
    replace CL := UC CL
    by_cases hty : rk.type = r.type
    ·have ety : (rk.type == r.type) = true := by rw [hty]; simp
     have hxk : upd r rk = (⟨rk.name, rk.type, r.ttl, rk.addr, rk.to, rk.text, rk.nums⟩ : Rec) := by unfold upd; rw [if_pos ⟨hz, hty⟩]
     rw [hxk] at HSTEP HXOK
     have HXK : Hid (cmpR r (⟨rk.name, rk.type, r.ttl, rk.addr, rk.to, rk.text, rk.nums⟩ : Rec) = c) := UC (by rw [← hxk, Ml]; exact UB HC0)
     clear hxk
     clear hz hty
     go_wp2_with fail
     refine (UB CL).mono ?_
     rintro e w2 ⟨rfl, b2⟩
     clear c0 c1 c2 c3 c4 c5 c6 z0 z1
     have q2 := UG bx b2
     have kx2 := UE b2 (UB KX)
     obtain ⟨x0a, x1a, x2a, x3a, x4a, x5a, x6a⟩ := UJ kx2
     have f2a := VG kx2 2
     have kx3 := UV kx2 2 (.int .i64 r.ttl)
     have kr2 := UE q2 (UB KRr)
     obtain ⟨y0, y1, y2, y3, y4, y5, y6⟩ := UJ kr2
     have gs := Ab w2 ⟨wr.heap.size, 2, none⟩ (.int .i64 r.ttl)
     have bs : Below wr.heap.size wr (w2.setCell ⟨wr.heap.size, 2, none⟩ (.int .i64 r.ttl)) := q2.setCell (by show wr.heap.size ≤ wr.heap.size; omega) _
     have kr3 := UE bs (UB KRr)
     obtain ⟨y0b, y1b, y2b, y3b, y4b, y5b, y6b⟩ := UJ kr3
     obtain ⟨x0, x1, x2, x3, x4, x5, x6⟩ := UJ kx3
     have hx3 : HasR (w2.setCell ⟨wr.heap.size, 2, none⟩ (.int .i64 r.ttl)) (.slice na rk.name.length nc) (.slice ta rk.to.length tc) (.slice xa rk.text.length xc) (.slice ia rk.nums.length ic) (⟨rk.name, rk.type, r.ttl, rk.addr, rk.to, rk.text, rk.nums⟩ : Rec) := ⟨((UB HU).below bs).name, ((UB HU).below bs).to, ((UB HU).below bs).text, ((UB HU).below bs).nums⟩
     have CM := Iv ((UB HX).below bs) hx3 hrok (UB HXOK)
     rw [UB HXK] at CM
     replace CM := UC CM
     have KX3 := UC kx3
     have BS := UC bs
     clear kx2 kx3 kr2 kr3 hx3 bs gs
     go_wp2_with fail
     clear x0a x1a x2a x3a x4a x5a x6a f2a y0 y1 y2 y3 y4 y5 y6 y0b y1b y2b y3b y4b y5b y6b x0 x1 x2 x3 x4 x5 x6
     generalize w2.setCell ⟨wr.heap.size, 2, none⟩ (.int .i64 r.ttl) = w2s at *
     refine (UB CM).mono ?_
     rintro e w3 ⟨rfl, b3⟩
     have q3 := UG (UB BS) b3
     have KXI := UC (UE b3 (UB KX3))
     have KRI := UC (UE q3 (UB KRr))
     have ROWa := UC ((UB HROW).later q3)
     have KOa := UC (UE q3 hout)
     have HBa := UC (hb.trans (q3.mono (by omega)))
     have zq3 := q3.size
     obtain ⟨x0, x1, x2, x3, x4, x5, x6⟩ := UJ (UB KXI)
     obtain ⟨y0, y1, y2, y3, y4, y5, y6⟩ := UJ (UB KRI)
     cases p0 with
     | false =>
      by_cases hc0 : c = 0
      ·subst hc0
       obtain ⟨xsa, hxoa, hxsa⟩ := UB ROWa
       have bya := UI (w := w3) (.cells #[.slice una r.name.length unc, .int .i64 r.type, .int .i64 r.ttl, .int .i64 r.addr, .slice uta r.to.length utc, .slice uxa r.text.length uxc, .slice uia r.nums.length uic] 39)
       obtain ⟨o0a, o1a⟩ := UM (UB KOa)
       have HXOa := UC hxoa
       have HXSa := UC hxsa
       have zqa := (UB HBa).size
       have zya := bya.size
       have HXBa := UC (At hxoa bya)
       clear hxoa hxsa bya
       go_wp2_with (at_builtin; (refine A5 rfl _ _ 26 39 rfl Tryz.underlying26 _ Ca rfl (w.heap.size + 4) _ l0.length xsa rfl (UB HXBa) _ (Ah (.slice una r.name.length unc) (.slice uta r.to.length utc) (.slice uxa r.text.length uxc) (.slice uia r.nums.length uic) r) rfl (heap_alloc_new _ _) rfl (by simp [Ah, Value.oneCell']) (by omega) (Nat.le_trans (Nat.le_trans zW zqa) zya) ?_))
       intro van wan owan gan
       obtain ⟨koutan, ko6an, r6an, hb6an⟩ := Bv (.cells #[.slice una r.name.length unc, .int .i64 r.type, .int .i64 r.ttl, .int .i64 r.addr, .slice uta r.to.length utc, .slice uxa r.text.length uxc, .slice uia r.nums.length uic] 39) (UB KOa) (UB HBa) zW (UB HXOa) (UB HXSa) owan gan (UB HX0)
       generalize hlan : l0 ++ [r] = lan at r6an
       have HLan := UC hlan
       have hllean : lan.length ≤ l0.length + 1 := by rw [← hlan, List.length_append]; exact Nat.le_refl _
       obtain ⟨vaan, vcan, rfl⟩ := r6an.slice
       obtain ⟨o0ban, o1ban⟩ := UM koutan
       obtain ⟨f0ban, f1ban⟩ := Am koutan
       have ROWan := UC r6an
       have HBan := UC hb6an
       have KOan := UC ko6an
       clear owan gan r6an hb6an koutan ko6an hlan o0a o1a
       go_wp2_with fail
       have hst : addK r rs (k + 1) = (lan, true) := by
        rw [UB HSTEP]
        rw [← UB HLan]
        simp
       exact ⟨⟨k + 1, _, by omega, by go_num, by rw [hst], UB KOan, by rw [hst]; exact UB ROWan, UB HBan⟩, by simp [intOf]; omega⟩
      ·have hne : ¬ c = 0 := hc0
       have hneb : (c != 0) = true := by rw [bne_iff_ne]; exact hc0
       by_cases hle : c ≤ 0
       ·clear hc0
        obtain ⟨xsa, hxoa, hxsa⟩ := UB ROWa
        have bya := UI (w := w3) (.cells #[.slice una r.name.length unc, .int .i64 r.type, .int .i64 r.ttl, .int .i64 r.addr, .slice uta r.to.length utc, .slice uxa r.text.length uxc, .slice uia r.nums.length uic] 39)
        obtain ⟨o0a, o1a⟩ := UM (UB KOa)
        have HXOa := UC hxoa
        have HXSa := UC hxsa
        have zqa := (UB HBa).size
        have zya := bya.size
        have HXBa := UC (At hxoa bya)
        clear hxoa hxsa bya
        go_wp2_with (at_builtin; (refine A5 rfl _ _ 26 39 rfl Tryz.underlying26 _ Ca rfl (w.heap.size + 4) _ l0.length xsa rfl (UB HXBa) _ (Ah (.slice una r.name.length unc) (.slice uta r.to.length utc) (.slice uxa r.text.length uxc) (.slice uia r.nums.length uic) r) rfl (heap_alloc_new _ _) rfl (by simp [Ah, Value.oneCell']) (by omega) (Nat.le_trans (Nat.le_trans zW zqa) zya) ?_))
        intro van wan owan gan
        obtain ⟨koutan, ko6an, r6an, hb6an⟩ := Bv (.cells #[.slice una r.name.length unc, .int .i64 r.type, .int .i64 r.ttl, .int .i64 r.addr, .slice uta r.to.length utc, .slice uxa r.text.length uxc, .slice uia r.nums.length uic] 39) (UB KOa) (UB HBa) zW (UB HXOa) (UB HXSa) owan gan (UB HX0)
        generalize hlan : l0 ++ [r] = lan at r6an
        have HLan := UC hlan
        have hllean : lan.length ≤ l0.length + 1 := by rw [← hlan, List.length_append]; exact Nat.le_refl _
        have kx5an := Aa gan (UE (UI (w := w3) (.cells #[.slice una r.name.length unc, .int .i64 r.type, .int .i64 r.ttl, .int .i64 r.addr, .slice uta r.to.length utc, .slice uxa r.text.length uxc, .slice uia r.nums.length uic] 39)) (UB KXI)) (fun e => by have := (World.ownsRow.lt (UB HXW) _ e).2; omega)
        have kx6an := Aa (Ab wan ⟨w.heap.size + 3, 1, none⟩ van) kx5an (fun e => by simp only [Option.some.injEq] at e; omega)
        obtain ⟨vaan, vcan, rfl⟩ := r6an.slice
        obtain ⟨o0ban, o1ban⟩ := UM koutan
        obtain ⟨f0ban, f1ban⟩ := Am koutan
        have ROWan := UC r6an
        have HBan := UC hb6an
        have KOan := UC ko6an
        have KXan := UC kx6an
        obtain ⟨x0, x1, x2, x3, x4, x5, x6⟩ := UJ kx6an
        clear kx5an kx6an
        clear owan gan r6an hb6an koutan ko6an hlan o0a o1a
        have KRJ := UC True.intro
        obtain ⟨xsan, hxoan, hxsan⟩ := UB ROWan
        have byan := UI (w := (wan.setCell ⟨w.heap.size + 3, 1, none⟩ (.slice vaan lan.length vcan))) (.cells #[.slice na rk.name.length nc, .int .i64 rk.type, .int .i64 r.ttl, .int .i64 rk.addr, .slice ta rk.to.length tc, .slice xa rk.text.length xc, .slice ia rk.nums.length ic] 39)
        obtain ⟨o0an, o1an⟩ := UM (UB KOan)
        have HXOan := UC hxoan
        have HXSan := UC hxsan
        have zqan := (UB HBan).size
        have zyan := byan.size
        have HXBan := UC (At hxoan byan)
        have KYan := UC (show (((wan.setCell ⟨w.heap.size + 3, 1, none⟩ (.slice vaan lan.length vcan))).alloc (.cells #[.slice na rk.name.length nc, .int .i64 rk.type, .int .i64 r.ttl, .int .i64 rk.addr, .slice ta rk.to.length tc, .slice xa rk.text.length xc, .slice ia rk.nums.length ic] 39)).heap[wan.heap.size]? = some (.cells #[.slice na rk.name.length nc, .int .i64 rk.type, .int .i64 r.ttl, .int .i64 rk.addr, .slice ta rk.to.length tc, .slice xa rk.text.length xc, .slice ia rk.nums.length ic] 39) from (by have := heap_alloc_new (wan.setCell ⟨w.heap.size + 3, 1, none⟩ (.slice vaan lan.length vcan)) (.cells #[.slice na rk.name.length nc, .int .i64 rk.type, .int .i64 r.ttl, .int .i64 rk.addr, .slice ta rk.to.length tc, .slice xa rk.text.length xc, .slice ia rk.nums.length ic] 39); rwa [World.size_setCell] at this))
        clear hxoan hxsan byan
        go_wp2_with (at_builtin; first | (refine A5 rfl _ _ 26 39 rfl Tryz.underlying26 _ Ca rfl (w.heap.size + 4) _ lan.length xsan rfl (UB HXBan) wan.heap.size (Ah (.slice na rk.name.length nc) (.slice ta rk.to.length tc) (.slice xa rk.text.length xc) (.slice ia rk.nums.length ic) (⟨rk.name, rk.type, r.ttl, rk.addr, rk.to, rk.text, rk.nums⟩ : Rec)) rfl (UB KYan) rfl (by simp [Ah, Value.oneCell']) (by omega) (Nat.le_trans (Nat.le_trans zW zqan) zyan) ?_) | (refine A5 rfl _ _ 26 39 rfl Tryz.underlying26 _ Ca rfl (w.heap.size + 4) _ lan.length xsan rfl (UB HXBan) _ (Ah (.slice na rk.name.length nc) (.slice ta rk.to.length tc) (.slice xa rk.text.length xc) (.slice ia rk.nums.length ic) (⟨rk.name, rk.type, r.ttl, rk.addr, rk.to, rk.text, rk.nums⟩ : Rec)) rfl (heap_alloc_new _ _) rfl (by simp [Ah, Value.oneCell']) (by omega) (Nat.le_trans (Nat.le_trans zW zqan) zyan) ?_))
        intro vann wann owann gann
        obtain ⟨koutann, ko6ann, r6ann, hb6ann⟩ := Bv (.cells #[.slice na rk.name.length nc, .int .i64 rk.type, .int .i64 r.ttl, .int .i64 rk.addr, .slice ta rk.to.length tc, .slice xa rk.text.length xc, .slice ia rk.nums.length ic] 39) (UB KOan) (UB HBan) zW (UB HXOan) (UB HXSan) owann gann (show HasR w (.slice na rk.name.length nc) (.slice ta rk.to.length tc) (.slice xa rk.text.length xc) (.slice ia rk.nums.length ic) (⟨rk.name, rk.type, r.ttl, rk.addr, rk.to, rk.text, rk.nums⟩ : Rec) from ⟨(UB HU0).name, (UB HU0).to, (UB HU0).text, (UB HU0).nums⟩)
        generalize hlann : lan ++ [(⟨rk.name, rk.type, r.ttl, rk.addr, rk.to, rk.text, rk.nums⟩ : Rec)] = lann at r6ann
        have HLann := UC hlann
        have hlleann : lann.length ≤ lan.length + 1 := by rw [← hlann, List.length_append]; exact Nat.le_refl _
        obtain ⟨vaann, vcann, rfl⟩ := r6ann.slice
        obtain ⟨o0bann, o1bann⟩ := UM koutann
        obtain ⟨f0bann, f1bann⟩ := Am koutann
        have ROWann := UC r6ann
        have HBann := UC hb6ann
        have KOann := UC ko6ann
        clear owann gann r6ann hb6ann koutann ko6ann hlann o0an o1an
        go_wp2_with fail
        have hst : addK r rs (k + 1) = (lann, true) := by
         rw [UB HSTEP]
         rw [← UB HLann, ← UB HLan]
         simp [hle, hne]
        exact ⟨⟨k + 1, _, by omega, by go_num, by rw [hst], UB KOann, by rw [hst]; exact UB ROWann, UB HBann⟩, by simp [intOf]; omega⟩
       ·clear hc0
        obtain ⟨xsa, hxoa, hxsa⟩ := UB ROWa
        have bya := UI (w := w3) (.cells #[.slice na rk.name.length nc, .int .i64 rk.type, .int .i64 r.ttl, .int .i64 rk.addr, .slice ta rk.to.length tc, .slice xa rk.text.length xc, .slice ia rk.nums.length ic] 39)
        obtain ⟨o0a, o1a⟩ := UM (UB KOa)
        have HXOa := UC hxoa
        have HXSa := UC hxsa
        have zqa := (UB HBa).size
        have zya := bya.size
        have HXBa := UC (At hxoa bya)
        clear hxoa hxsa bya
        go_wp2_with (at_builtin; (refine A5 rfl _ _ 26 39 rfl Tryz.underlying26 _ Ca rfl (w.heap.size + 4) _ l0.length xsa rfl (UB HXBa) _ (Ah (.slice na rk.name.length nc) (.slice ta rk.to.length tc) (.slice xa rk.text.length xc) (.slice ia rk.nums.length ic) (⟨rk.name, rk.type, r.ttl, rk.addr, rk.to, rk.text, rk.nums⟩ : Rec)) rfl (heap_alloc_new _ _) rfl (by simp [Ah, Value.oneCell']) (by omega) (Nat.le_trans (Nat.le_trans zW zqa) zya) ?_))
        intro van wan owan gan
        obtain ⟨koutan, ko6an, r6an, hb6an⟩ := Bv (.cells #[.slice na rk.name.length nc, .int .i64 rk.type, .int .i64 r.ttl, .int .i64 rk.addr, .slice ta rk.to.length tc, .slice xa rk.text.length xc, .slice ia rk.nums.length ic] 39) (UB KOa) (UB HBa) zW (UB HXOa) (UB HXSa) owan gan (show HasR w (.slice na rk.name.length nc) (.slice ta rk.to.length tc) (.slice xa rk.text.length xc) (.slice ia rk.nums.length ic) (⟨rk.name, rk.type, r.ttl, rk.addr, rk.to, rk.text, rk.nums⟩ : Rec) from ⟨(UB HU0).name, (UB HU0).to, (UB HU0).text, (UB HU0).nums⟩)
        generalize hlan : l0 ++ [(⟨rk.name, rk.type, r.ttl, rk.addr, rk.to, rk.text, rk.nums⟩ : Rec)] = lan at r6an
        have HLan := UC hlan
        have hllean : lan.length ≤ l0.length + 1 := by rw [← hlan, List.length_append]; exact Nat.le_refl _
        obtain ⟨vaan, vcan, rfl⟩ := r6an.slice
        obtain ⟨o0ban, o1ban⟩ := UM koutan
        obtain ⟨f0ban, f1ban⟩ := Am koutan
        have ROWan := UC r6an
        have HBan := UC hb6an
        have KOan := UC ko6an
        clear owan gan r6an hb6an koutan ko6an hlan o0a o1a
        go_wp2_with fail
        have hst : addK r rs (k + 1) = (lan, false) := by
         rw [UB HSTEP]
         rw [← UB HLan]
         simp [hle, hne]
        exact ⟨⟨k + 1, _, by omega, by go_num, by rw [hst], UB KOan, by rw [hst]; exact UB ROWan, UB HBan⟩, by simp [intOf]; omega⟩
     | true =>
      by_cases hc0 : c = 0
      ·subst hc0
       go_wp2_with fail
       have hst : addK r rs (k + 1) = (l0, true) := by
        rw [UB HSTEP]
        skip
        simp
       exact ⟨⟨k + 1, _, by omega, by go_num, by rw [hst], UB KOa, by rw [hst]; exact UB ROWa, UB HBa⟩, by simp [intOf]; omega⟩
      ·have hne : ¬ c = 0 := hc0
       have hneb : (c != 0) = true := by rw [bne_iff_ne]; exact hc0
       clear hc0
       obtain ⟨xsa, hxoa, hxsa⟩ := UB ROWa
       have bya := UI (w := w3) (.cells #[.slice na rk.name.length nc, .int .i64 rk.type, .int .i64 r.ttl, .int .i64 rk.addr, .slice ta rk.to.length tc, .slice xa rk.text.length xc, .slice ia rk.nums.length ic] 39)
       obtain ⟨o0a, o1a⟩ := UM (UB KOa)
       have HXOa := UC hxoa
       have HXSa := UC hxsa
       have zqa := (UB HBa).size
       have zya := bya.size
       have HXBa := UC (At hxoa bya)
       clear hxoa hxsa bya
       go_wp2_with (at_builtin; (refine A5 rfl _ _ 26 39 rfl Tryz.underlying26 _ Ca rfl (w.heap.size + 4) _ l0.length xsa rfl (UB HXBa) _ (Ah (.slice na rk.name.length nc) (.slice ta rk.to.length tc) (.slice xa rk.text.length xc) (.slice ia rk.nums.length ic) (⟨rk.name, rk.type, r.ttl, rk.addr, rk.to, rk.text, rk.nums⟩ : Rec)) rfl (heap_alloc_new _ _) rfl (by simp [Ah, Value.oneCell']) (by omega) (Nat.le_trans (Nat.le_trans zW zqa) zya) ?_))
       intro van wan owan gan
       obtain ⟨koutan, ko6an, r6an, hb6an⟩ := Bv (.cells #[.slice na rk.name.length nc, .int .i64 rk.type, .int .i64 r.ttl, .int .i64 rk.addr, .slice ta rk.to.length tc, .slice xa rk.text.length xc, .slice ia rk.nums.length ic] 39) (UB KOa) (UB HBa) zW (UB HXOa) (UB HXSa) owan gan (show HasR w (.slice na rk.name.length nc) (.slice ta rk.to.length tc) (.slice xa rk.text.length xc) (.slice ia rk.nums.length ic) (⟨rk.name, rk.type, r.ttl, rk.addr, rk.to, rk.text, rk.nums⟩ : Rec) from ⟨(UB HU0).name, (UB HU0).to, (UB HU0).text, (UB HU0).nums⟩)
       generalize hlan : l0 ++ [(⟨rk.name, rk.type, r.ttl, rk.addr, rk.to, rk.text, rk.nums⟩ : Rec)] = lan at r6an
       have HLan := UC hlan
       have hllean : lan.length ≤ l0.length + 1 := by rw [← hlan, List.length_append]; exact Nat.le_refl _
       obtain ⟨vaan, vcan, rfl⟩ := r6an.slice
       obtain ⟨o0ban, o1ban⟩ := UM koutan
       obtain ⟨f0ban, f1ban⟩ := Am koutan
       have ROWan := UC r6an
       have HBan := UC hb6an
       have KOan := UC ko6an
       clear owan gan r6an hb6an koutan ko6an hlan o0a o1a
       go_wp2_with fail
       have hst : addK r rs (k + 1) = (lan, true) := by
        rw [UB HSTEP]
        rw [← UB HLan]
        simp [hne]
       exact ⟨⟨k + 1, _, by omega, by go_num, by rw [hst], UB KOan, by rw [hst]; exact UB ROWan, UB HBan⟩, by simp [intOf]; omega⟩
    ·have ety : (rk.type == r.type) = false := by rw [beq_eq_false_iff_ne]; exact hty
     have hxk : upd r rk = rk := by unfold upd; rw [if_neg (fun q => hty q.2)]
     rw [hxk] at HSTEP HXOK
     have HXK : Hid (cmpR r rk = c) := UC (by rw [← hxk, Ml]; exact UB HC0)
     clear hxk
     clear hz hty
     go_wp2_with fail
     refine (UB CL).mono ?_
     rintro e w2 ⟨rfl, b2⟩
     clear c0 c1 c2 c3 c4 c5 c6 z0 z1
     have q2 := UG bx b2
     obtain ⟨x0, x1, x2, x3, x4, x5, x6⟩ := UJ (UE b2 (UB KX))
     obtain ⟨y0, y1, y2, y3, y4, y5, y6⟩ := UJ (UE q2 (UB KRr))
     have hx3 : HasR w2 (.slice na rk.name.length nc) (.slice ta rk.to.length tc) (.slice xa rk.text.length xc) (.slice ia rk.nums.length ic) rk := (UB HU).below q2
     have CM := Iv ((UB HX).below q2) hx3 hrok (UB HXOK)
     rw [UB HXK] at CM
     replace CM := UC CM
     clear hx3
     go_wp2_with fail
     clear x0 x1 x2 x3 x4 x5 x6 y0 y1 y2 y3 y4 y5 y6
     refine (UB CM).mono ?_
     rintro e w3 ⟨rfl, b3⟩
     have q3 := UG q2 b3
     have KXI := UC (UE b3 (UE b2 (UB KX)))
     have KRI := UC (UE q3 (UB KRr))
     have ROWa := UC ((UB HROW).later q3)
     have KOa := UC (UE q3 hout)
     have HBa := UC (hb.trans (q3.mono (by omega)))
     have zq3 := q3.size
     obtain ⟨x0, x1, x2, x3, x4, x5, x6⟩ := UJ (UB KXI)
     obtain ⟨y0, y1, y2, y3, y4, y5, y6⟩ := UJ (UB KRI)
     cases p0 with
     | false =>
      by_cases hc0 : c = 0
      ·subst hc0
       obtain ⟨xsa, hxoa, hxsa⟩ := UB ROWa
       have bya := UI (w := w3) (.cells #[.slice una r.name.length unc, .int .i64 r.type, .int .i64 r.ttl, .int .i64 r.addr, .slice uta r.to.length utc, .slice uxa r.text.length uxc, .slice uia r.nums.length uic] 39)
       obtain ⟨o0a, o1a⟩ := UM (UB KOa)
       have HXOa := UC hxoa
       have HXSa := UC hxsa
       have zqa := (UB HBa).size
       have zya := bya.size
       have HXBa := UC (At hxoa bya)
       clear hxoa hxsa bya
       go_wp2_with (at_builtin; (refine A5 rfl _ _ 26 39 rfl Tryz.underlying26 _ Ca rfl (w.heap.size + 4) _ l0.length xsa rfl (UB HXBa) _ (Ah (.slice una r.name.length unc) (.slice uta r.to.length utc) (.slice uxa r.text.length uxc) (.slice uia r.nums.length uic) r) rfl (heap_alloc_new _ _) rfl (by simp [Ah, Value.oneCell']) (by omega) (Nat.le_trans (Nat.le_trans zW zqa) zya) ?_))
       intro van wan owan gan
       obtain ⟨koutan, ko6an, r6an, hb6an⟩ := Bv (.cells #[.slice una r.name.length unc, .int .i64 r.type, .int .i64 r.ttl, .int .i64 r.addr, .slice uta r.to.length utc, .slice uxa r.text.length uxc, .slice uia r.nums.length uic] 39) (UB KOa) (UB HBa) zW (UB HXOa) (UB HXSa) owan gan (UB HX0)
       generalize hlan : l0 ++ [r] = lan at r6an
       have HLan := UC hlan
       have hllean : lan.length ≤ l0.length + 1 := by rw [← hlan, List.length_append]; exact Nat.le_refl _
       obtain ⟨vaan, vcan, rfl⟩ := r6an.slice
       obtain ⟨o0ban, o1ban⟩ := UM koutan
       obtain ⟨f0ban, f1ban⟩ := Am koutan
       have ROWan := UC r6an
       have HBan := UC hb6an
       have KOan := UC ko6an
       clear owan gan r6an hb6an koutan ko6an hlan o0a o1a
       go_wp2_with fail
       have hst : addK r rs (k + 1) = (lan, true) := by
        rw [UB HSTEP]
        rw [← UB HLan]
        simp
       exact ⟨⟨k + 1, _, by omega, by go_num, by rw [hst], UB KOan, by rw [hst]; exact UB ROWan, UB HBan⟩, by simp [intOf]; omega⟩
      ·have hne : ¬ c = 0 := hc0
       have hneb : (c != 0) = true := by rw [bne_iff_ne]; exact hc0
       by_cases hle : c ≤ 0
       ·clear hc0
        obtain ⟨xsa, hxoa, hxsa⟩ := UB ROWa
        have bya := UI (w := w3) (.cells #[.slice una r.name.length unc, .int .i64 r.type, .int .i64 r.ttl, .int .i64 r.addr, .slice uta r.to.length utc, .slice uxa r.text.length uxc, .slice uia r.nums.length uic] 39)
        obtain ⟨o0a, o1a⟩ := UM (UB KOa)
        have HXOa := UC hxoa
        have HXSa := UC hxsa
        have zqa := (UB HBa).size
        have zya := bya.size
        have HXBa := UC (At hxoa bya)
        clear hxoa hxsa bya
        go_wp2_with (at_builtin; (refine A5 rfl _ _ 26 39 rfl Tryz.underlying26 _ Ca rfl (w.heap.size + 4) _ l0.length xsa rfl (UB HXBa) _ (Ah (.slice una r.name.length unc) (.slice uta r.to.length utc) (.slice uxa r.text.length uxc) (.slice uia r.nums.length uic) r) rfl (heap_alloc_new _ _) rfl (by simp [Ah, Value.oneCell']) (by omega) (Nat.le_trans (Nat.le_trans zW zqa) zya) ?_))
        intro van wan owan gan
        obtain ⟨koutan, ko6an, r6an, hb6an⟩ := Bv (.cells #[.slice una r.name.length unc, .int .i64 r.type, .int .i64 r.ttl, .int .i64 r.addr, .slice uta r.to.length utc, .slice uxa r.text.length uxc, .slice uia r.nums.length uic] 39) (UB KOa) (UB HBa) zW (UB HXOa) (UB HXSa) owan gan (UB HX0)
        generalize hlan : l0 ++ [r] = lan at r6an
        have HLan := UC hlan
        have hllean : lan.length ≤ l0.length + 1 := by rw [← hlan, List.length_append]; exact Nat.le_refl _
        have kx5an := Aa gan (UE (UI (w := w3) (.cells #[.slice una r.name.length unc, .int .i64 r.type, .int .i64 r.ttl, .int .i64 r.addr, .slice uta r.to.length utc, .slice uxa r.text.length uxc, .slice uia r.nums.length uic] 39)) (UB KXI)) (fun e => by have := (World.ownsRow.lt (UB HXW) _ e).2; omega)
        have kx6an := Aa (Ab wan ⟨w.heap.size + 3, 1, none⟩ van) kx5an (fun e => by simp only [Option.some.injEq] at e; omega)
        obtain ⟨vaan, vcan, rfl⟩ := r6an.slice
        obtain ⟨o0ban, o1ban⟩ := UM koutan
        obtain ⟨f0ban, f1ban⟩ := Am koutan
        have ROWan := UC r6an
        have HBan := UC hb6an
        have KOan := UC ko6an
        have KXan := UC kx6an
        obtain ⟨x0, x1, x2, x3, x4, x5, x6⟩ := UJ kx6an
        clear kx5an kx6an
        clear owan gan r6an hb6an koutan ko6an hlan o0a o1a
        have KRJ := UC True.intro
        obtain ⟨xsan, hxoan, hxsan⟩ := UB ROWan
        have byan := UI (w := (wan.setCell ⟨w.heap.size + 3, 1, none⟩ (.slice vaan lan.length vcan))) (.cells #[.slice na rk.name.length nc, .int .i64 rk.type, .int .i64 rk.ttl, .int .i64 rk.addr, .slice ta rk.to.length tc, .slice xa rk.text.length xc, .slice ia rk.nums.length ic] 39)
        obtain ⟨o0an, o1an⟩ := UM (UB KOan)
        have HXOan := UC hxoan
        have HXSan := UC hxsan
        have zqan := (UB HBan).size
        have zyan := byan.size
        have HXBan := UC (At hxoan byan)
        have KYan := UC (show (((wan.setCell ⟨w.heap.size + 3, 1, none⟩ (.slice vaan lan.length vcan))).alloc (.cells #[.slice na rk.name.length nc, .int .i64 rk.type, .int .i64 rk.ttl, .int .i64 rk.addr, .slice ta rk.to.length tc, .slice xa rk.text.length xc, .slice ia rk.nums.length ic] 39)).heap[wan.heap.size]? = some (.cells #[.slice na rk.name.length nc, .int .i64 rk.type, .int .i64 rk.ttl, .int .i64 rk.addr, .slice ta rk.to.length tc, .slice xa rk.text.length xc, .slice ia rk.nums.length ic] 39) from (by have := heap_alloc_new (wan.setCell ⟨w.heap.size + 3, 1, none⟩ (.slice vaan lan.length vcan)) (.cells #[.slice na rk.name.length nc, .int .i64 rk.type, .int .i64 rk.ttl, .int .i64 rk.addr, .slice ta rk.to.length tc, .slice xa rk.text.length xc, .slice ia rk.nums.length ic] 39); rwa [World.size_setCell] at this))
        clear hxoan hxsan byan
        go_wp2_with (at_builtin; first | (refine A5 rfl _ _ 26 39 rfl Tryz.underlying26 _ Ca rfl (w.heap.size + 4) _ lan.length xsan rfl (UB HXBan) wan.heap.size (Ah (.slice na rk.name.length nc) (.slice ta rk.to.length tc) (.slice xa rk.text.length xc) (.slice ia rk.nums.length ic) rk) rfl (UB KYan) rfl (by simp [Ah, Value.oneCell']) (by omega) (Nat.le_trans (Nat.le_trans zW zqan) zyan) ?_) | (refine A5 rfl _ _ 26 39 rfl Tryz.underlying26 _ Ca rfl (w.heap.size + 4) _ lan.length xsan rfl (UB HXBan) _ (Ah (.slice na rk.name.length nc) (.slice ta rk.to.length tc) (.slice xa rk.text.length xc) (.slice ia rk.nums.length ic) rk) rfl (heap_alloc_new _ _) rfl (by simp [Ah, Value.oneCell']) (by omega) (Nat.le_trans (Nat.le_trans zW zqan) zyan) ?_))
        intro vann wann owann gann
        obtain ⟨koutann, ko6ann, r6ann, hb6ann⟩ := Bv (.cells #[.slice na rk.name.length nc, .int .i64 rk.type, .int .i64 rk.ttl, .int .i64 rk.addr, .slice ta rk.to.length tc, .slice xa rk.text.length xc, .slice ia rk.nums.length ic] 39) (UB KOan) (UB HBan) zW (UB HXOan) (UB HXSan) owann gann (show HasR w (.slice na rk.name.length nc) (.slice ta rk.to.length tc) (.slice xa rk.text.length xc) (.slice ia rk.nums.length ic) rk from ⟨(UB HU0).name, (UB HU0).to, (UB HU0).text, (UB HU0).nums⟩)
        generalize hlann : lan ++ [rk] = lann at r6ann
        have HLann := UC hlann
        have hlleann : lann.length ≤ lan.length + 1 := by rw [← hlann, List.length_append]; exact Nat.le_refl _
        obtain ⟨vaann, vcann, rfl⟩ := r6ann.slice
        obtain ⟨o0bann, o1bann⟩ := UM koutann
        obtain ⟨f0bann, f1bann⟩ := Am koutann
        have ROWann := UC r6ann
        have HBann := UC hb6ann
        have KOann := UC ko6ann
        clear owann gann r6ann hb6ann koutann ko6ann hlann o0an o1an
        go_wp2_with fail
        have hst : addK r rs (k + 1) = (lann, true) := by
         rw [UB HSTEP]
         rw [← UB HLann, ← UB HLan]
         simp [hle, hne]
        exact ⟨⟨k + 1, _, by omega, by go_num, by rw [hst], UB KOann, by rw [hst]; exact UB ROWann, UB HBann⟩, by simp [intOf]; omega⟩
       ·clear hc0
        obtain ⟨xsa, hxoa, hxsa⟩ := UB ROWa
        have bya := UI (w := w3) (.cells #[.slice na rk.name.length nc, .int .i64 rk.type, .int .i64 rk.ttl, .int .i64 rk.addr, .slice ta rk.to.length tc, .slice xa rk.text.length xc, .slice ia rk.nums.length ic] 39)
        obtain ⟨o0a, o1a⟩ := UM (UB KOa)
        have HXOa := UC hxoa
        have HXSa := UC hxsa
        have zqa := (UB HBa).size
        have zya := bya.size
        have HXBa := UC (At hxoa bya)
        clear hxoa hxsa bya
        go_wp2_with (at_builtin; (refine A5 rfl _ _ 26 39 rfl Tryz.underlying26 _ Ca rfl (w.heap.size + 4) _ l0.length xsa rfl (UB HXBa) _ (Ah (.slice na rk.name.length nc) (.slice ta rk.to.length tc) (.slice xa rk.text.length xc) (.slice ia rk.nums.length ic) rk) rfl (heap_alloc_new _ _) rfl (by simp [Ah, Value.oneCell']) (by omega) (Nat.le_trans (Nat.le_trans zW zqa) zya) ?_))
        intro van wan owan gan
        obtain ⟨koutan, ko6an, r6an, hb6an⟩ := Bv (.cells #[.slice na rk.name.length nc, .int .i64 rk.type, .int .i64 rk.ttl, .int .i64 rk.addr, .slice ta rk.to.length tc, .slice xa rk.text.length xc, .slice ia rk.nums.length ic] 39) (UB KOa) (UB HBa) zW (UB HXOa) (UB HXSa) owan gan (show HasR w (.slice na rk.name.length nc) (.slice ta rk.to.length tc) (.slice xa rk.text.length xc) (.slice ia rk.nums.length ic) rk from ⟨(UB HU0).name, (UB HU0).to, (UB HU0).text, (UB HU0).nums⟩)
        generalize hlan : l0 ++ [rk] = lan at r6an
        have HLan := UC hlan
        have hllean : lan.length ≤ l0.length + 1 := by rw [← hlan, List.length_append]; exact Nat.le_refl _
        obtain ⟨vaan, vcan, rfl⟩ := r6an.slice
        obtain ⟨o0ban, o1ban⟩ := UM koutan
        obtain ⟨f0ban, f1ban⟩ := Am koutan
        have ROWan := UC r6an
        have HBan := UC hb6an
        have KOan := UC ko6an
        clear owan gan r6an hb6an koutan ko6an hlan o0a o1a
        go_wp2_with fail
        have hst : addK r rs (k + 1) = (lan, false) := by
         rw [UB HSTEP]
         rw [← UB HLan]
         simp [hle, hne]
        exact ⟨⟨k + 1, _, by omega, by go_num, by rw [hst], UB KOan, by rw [hst]; exact UB ROWan, UB HBan⟩, by simp [intOf]; omega⟩
     | true =>
      by_cases hc0 : c = 0
      ·subst hc0
       go_wp2_with fail
       have hst : addK r rs (k + 1) = (l0, true) := by
        rw [UB HSTEP]
        skip
        simp
       exact ⟨⟨k + 1, _, by omega, by go_num, by rw [hst], UB KOa, by rw [hst]; exact UB ROWa, UB HBa⟩, by simp [intOf]; omega⟩
      ·have hne : ¬ c = 0 := hc0
       have hneb : (c != 0) = true := by rw [bne_iff_ne]; exact hc0
       clear hc0
       obtain ⟨xsa, hxoa, hxsa⟩ := UB ROWa
       have bya := UI (w := w3) (.cells #[.slice na rk.name.length nc, .int .i64 rk.type, .int .i64 rk.ttl, .int .i64 rk.addr, .slice ta rk.to.length tc, .slice xa rk.text.length xc, .slice ia rk.nums.length ic] 39)
       obtain ⟨o0a, o1a⟩ := UM (UB KOa)
       have HXOa := UC hxoa
       have HXSa := UC hxsa
       have zqa := (UB HBa).size
       have zya := bya.size
       have HXBa := UC (At hxoa bya)
       clear hxoa hxsa bya
       go_wp2_with (at_builtin; (refine A5 rfl _ _ 26 39 rfl Tryz.underlying26 _ Ca rfl (w.heap.size + 4) _ l0.length xsa rfl (UB HXBa) _ (Ah (.slice na rk.name.length nc) (.slice ta rk.to.length tc) (.slice xa rk.text.length xc) (.slice ia rk.nums.length ic) rk) rfl (heap_alloc_new _ _) rfl (by simp [Ah, Value.oneCell']) (by omega) (Nat.le_trans (Nat.le_trans zW zqa) zya) ?_))
       intro van wan owan gan
       obtain ⟨koutan, ko6an, r6an, hb6an⟩ := Bv (.cells #[.slice na rk.name.length nc, .int .i64 rk.type, .int .i64 rk.ttl, .int .i64 rk.addr, .slice ta rk.to.length tc, .slice xa rk.text.length xc, .slice ia rk.nums.length ic] 39) (UB KOa) (UB HBa) zW (UB HXOa) (UB HXSa) owan gan (show HasR w (.slice na rk.name.length nc) (.slice ta rk.to.length tc) (.slice xa rk.text.length xc) (.slice ia rk.nums.length ic) rk from ⟨(UB HU0).name, (UB HU0).to, (UB HU0).text, (UB HU0).nums⟩)
       generalize hlan : l0 ++ [rk] = lan at r6an
       have HLan := UC hlan
       have hllean : lan.length ≤ l0.length + 1 := by rw [← hlan, List.length_append]; exact Nat.le_refl _
       obtain ⟨vaan, vcan, rfl⟩ := r6an.slice
       obtain ⟨o0ban, o1ban⟩ := UM koutan
       obtain ⟨f0ban, f1ban⟩ := Am koutan
       have ROWan := UC r6an
       have HBan := UC hb6an
       have KOan := UC ko6an
       clear owan gan r6an hb6an koutan ko6an hlan o0a o1a
       go_wp2_with fail
       have hst : addK r rs (k + 1) = (lan, true) := by
        rw [UB HSTEP]
        rw [← UB HLan]
        simp [hne]
       exact ⟨⟨k + 1, _, by omega, by go_num, by rw [hst], UB KOan, by rw [hst]; exact UB ROWan, UB HBan⟩, by simp [intOf]; omega⟩
   ·have hzb : (cmpN rk.name r.name == 0) = false := by rw [beq_eq_false_iff_ne]; exact hz
    replace CL := UC CL
    have hxk : upd r rk = rk := by unfold upd; rw [if_neg (fun q => hz q.1)]
    rw [hxk] at HSTEP HXOK
    have HXK : Hid (cmpR r rk = c) := UC (by rw [← hxk, Ml]; exact UB HC0)
    clear hxk
    clear hz
    go_wp2_with fail
    refine (UB CL).mono ?_
    rintro e w2 ⟨rfl, b2⟩
    clear c0 c1 c2 c3 c4 c5 c6 z0 z1
    have q2 := UG bx b2
    obtain ⟨x0, x1, x2, x3, x4, x5, x6⟩ := UJ (UE b2 (UB KX))
    obtain ⟨y0, y1, y2, y3, y4, y5, y6⟩ := UJ (UE q2 (UB KRr))
    have hx3 : HasR w2 (.slice na rk.name.length nc) (.slice ta rk.to.length tc) (.slice xa rk.text.length xc) (.slice ia rk.nums.length ic) rk := (UB HU).below q2
    have CM := Iv ((UB HX).below q2) hx3 hrok (UB HXOK)
    rw [UB HXK] at CM
    replace CM := UC CM
    clear hx3
    go_wp2_with fail
    clear x0 x1 x2 x3 x4 x5 x6 y0 y1 y2 y3 y4 y5 y6
    refine (UB CM).mono ?_
    rintro e w3 ⟨rfl, b3⟩
    have q3 := UG q2 b3
    have KXI := UC (UE b3 (UE b2 (UB KX)))
    have KRI := UC (UE q3 (UB KRr))
    have ROWa := UC ((UB HROW).later q3)
    have KOa := UC (UE q3 hout)
    have HBa := UC (hb.trans (q3.mono (by omega)))
    have zq3 := q3.size
    obtain ⟨x0, x1, x2, x3, x4, x5, x6⟩ := UJ (UB KXI)
    obtain ⟨y0, y1, y2, y3, y4, y5, y6⟩ := UJ (UB KRI)
    cases p0 with
    | false =>
     by_cases hc0 : c = 0
     ·subst hc0
      obtain ⟨xsa, hxoa, hxsa⟩ := UB ROWa
      have bya := UI (w := w3) (.cells #[.slice una r.name.length unc, .int .i64 r.type, .int .i64 r.ttl, .int .i64 r.addr, .slice uta r.to.length utc, .slice uxa r.text.length uxc, .slice uia r.nums.length uic] 39)
      obtain ⟨o0a, o1a⟩ := UM (UB KOa)
      have HXOa := UC hxoa
      have HXSa := UC hxsa
      have zqa := (UB HBa).size
      have zya := bya.size
      have HXBa := UC (At hxoa bya)
      clear hxoa hxsa bya
      go_wp2_with (at_builtin; (refine A5 rfl _ _ 26 39 rfl Tryz.underlying26 _ Ca rfl (w.heap.size + 4) _ l0.length xsa rfl (UB HXBa) _ (Ah (.slice una r.name.length unc) (.slice uta r.to.length utc) (.slice uxa r.text.length uxc) (.slice uia r.nums.length uic) r) rfl (heap_alloc_new _ _) rfl (by simp [Ah, Value.oneCell']) (by omega) (Nat.le_trans (Nat.le_trans zW zqa) zya) ?_))
      intro van wan owan gan
      obtain ⟨koutan, ko6an, r6an, hb6an⟩ := Bv (.cells #[.slice una r.name.length unc, .int .i64 r.type, .int .i64 r.ttl, .int .i64 r.addr, .slice uta r.to.length utc, .slice uxa r.text.length uxc, .slice uia r.nums.length uic] 39) (UB KOa) (UB HBa) zW (UB HXOa) (UB HXSa) owan gan (UB HX0)
      generalize hlan : l0 ++ [r] = lan at r6an
      have HLan := UC hlan
      have hllean : lan.length ≤ l0.length + 1 := by rw [← hlan, List.length_append]; exact Nat.le_refl _
      obtain ⟨vaan, vcan, rfl⟩ := r6an.slice
      obtain ⟨o0ban, o1ban⟩ := UM koutan
      obtain ⟨f0ban, f1ban⟩ := Am koutan
      have ROWan := UC r6an
      have HBan := UC hb6an
      have KOan := UC ko6an
      clear owan gan r6an hb6an koutan ko6an hlan o0a o1a
      go_wp2_with fail
      have hst : addK r rs (k + 1) = (lan, true) := by
       rw [UB HSTEP]
       rw [← UB HLan]
       simp
      exact ⟨⟨k + 1, _, by omega, by go_num, by rw [hst], UB KOan, by rw [hst]; exact UB ROWan, UB HBan⟩, by simp [intOf]; omega⟩
     ·have hne : ¬ c = 0 := hc0
      have hneb : (c != 0) = true := by rw [bne_iff_ne]; exact hc0
      by_cases hle : c ≤ 0
      ·clear hc0
       obtain ⟨xsa, hxoa, hxsa⟩ := UB ROWa
       have bya := UI (w := w3) (.cells #[.slice una r.name.length unc, .int .i64 r.type, .int .i64 r.ttl, .int .i64 r.addr, .slice uta r.to.length utc, .slice uxa r.text.length uxc, .slice uia r.nums.length uic] 39)
       obtain ⟨o0a, o1a⟩ := UM (UB KOa)
       have HXOa := UC hxoa
       have HXSa := UC hxsa
       have zqa := (UB HBa).size
       have zya := bya.size
       have HXBa := UC (At hxoa bya)
       clear hxoa hxsa bya
       go_wp2_with (at_builtin; (refine A5 rfl _ _ 26 39 rfl Tryz.underlying26 _ Ca rfl (w.heap.size + 4) _ l0.length xsa rfl (UB HXBa) _ (Ah (.slice una r.name.length unc) (.slice uta r.to.length utc) (.slice uxa r.text.length uxc) (.slice uia r.nums.length uic) r) rfl (heap_alloc_new _ _) rfl (by simp [Ah, Value.oneCell']) (by omega) (Nat.le_trans (Nat.le_trans zW zqa) zya) ?_))
       intro van wan owan gan
       obtain ⟨koutan, ko6an, r6an, hb6an⟩ := Bv (.cells #[.slice una r.name.length unc, .int .i64 r.type, .int .i64 r.ttl, .int .i64 r.addr, .slice uta r.to.length utc, .slice uxa r.text.length uxc, .slice uia r.nums.length uic] 39) (UB KOa) (UB HBa) zW (UB HXOa) (UB HXSa) owan gan (UB HX0)
       generalize hlan : l0 ++ [r] = lan at r6an
       have HLan := UC hlan
       have hllean : lan.length ≤ l0.length + 1 := by rw [← hlan, List.length_append]; exact Nat.le_refl _
       have kx5an := Aa gan (UE (UI (w := w3) (.cells #[.slice una r.name.length unc, .int .i64 r.type, .int .i64 r.ttl, .int .i64 r.addr, .slice uta r.to.length utc, .slice uxa r.text.length uxc, .slice uia r.nums.length uic] 39)) (UB KXI)) (fun e => by have := (World.ownsRow.lt (UB HXW) _ e).2; omega)
       have kx6an := Aa (Ab wan ⟨w.heap.size + 3, 1, none⟩ van) kx5an (fun e => by simp only [Option.some.injEq] at e; omega)
       obtain ⟨vaan, vcan, rfl⟩ := r6an.slice
       obtain ⟨o0ban, o1ban⟩ := UM koutan
       obtain ⟨f0ban, f1ban⟩ := Am koutan
       have ROWan := UC r6an
       have HBan := UC hb6an
       have KOan := UC ko6an
       have KXan := UC kx6an
       obtain ⟨x0, x1, x2, x3, x4, x5, x6⟩ := UJ kx6an
       clear kx5an kx6an
       clear owan gan r6an hb6an koutan ko6an hlan o0a o1a
       have KRJ := UC True.intro
       obtain ⟨xsan, hxoan, hxsan⟩ := UB ROWan
       have byan := UI (w := (wan.setCell ⟨w.heap.size + 3, 1, none⟩ (.slice vaan lan.length vcan))) (.cells #[.slice na rk.name.length nc, .int .i64 rk.type, .int .i64 rk.ttl, .int .i64 rk.addr, .slice ta rk.to.length tc, .slice xa rk.text.length xc, .slice ia rk.nums.length ic] 39)
       obtain ⟨o0an, o1an⟩ := UM (UB KOan)
       have HXOan := UC hxoan
       have HXSan := UC hxsan
       have zqan := (UB HBan).size
       have zyan := byan.size
       have HXBan := UC (At hxoan byan)
       have KYan := UC (show (((wan.setCell ⟨w.heap.size + 3, 1, none⟩ (.slice vaan lan.length vcan))).alloc (.cells #[.slice na rk.name.length nc, .int .i64 rk.type, .int .i64 rk.ttl, .int .i64 rk.addr, .slice ta rk.to.length tc, .slice xa rk.text.length xc, .slice ia rk.nums.length ic] 39)).heap[wan.heap.size]? = some (.cells #[.slice na rk.name.length nc, .int .i64 rk.type, .int .i64 rk.ttl, .int .i64 rk.addr, .slice ta rk.to.length tc, .slice xa rk.text.length xc, .slice ia rk.nums.length ic] 39) from (by have := heap_alloc_new (wan.setCell ⟨w.heap.size + 3, 1, none⟩ (.slice vaan lan.length vcan)) (.cells #[.slice na rk.name.length nc, .int .i64 rk.type, .int .i64 rk.ttl, .int .i64 rk.addr, .slice ta rk.to.length tc, .slice xa rk.text.length xc, .slice ia rk.nums.length ic] 39); rwa [World.size_setCell] at this))
       clear hxoan hxsan byan
       go_wp2_with (at_builtin; first | (refine A5 rfl _ _ 26 39 rfl Tryz.underlying26 _ Ca rfl (w.heap.size + 4) _ lan.length xsan rfl (UB HXBan) wan.heap.size (Ah (.slice na rk.name.length nc) (.slice ta rk.to.length tc) (.slice xa rk.text.length xc) (.slice ia rk.nums.length ic) rk) rfl (UB KYan) rfl (by simp [Ah, Value.oneCell']) (by omega) (Nat.le_trans (Nat.le_trans zW zqan) zyan) ?_) | (refine A5 rfl _ _ 26 39 rfl Tryz.underlying26 _ Ca rfl (w.heap.size + 4) _ lan.length xsan rfl (UB HXBan) _ (Ah (.slice na rk.name.length nc) (.slice ta rk.to.length tc) (.slice xa rk.text.length xc) (.slice ia rk.nums.length ic) rk) rfl (heap_alloc_new _ _) rfl (by simp [Ah, Value.oneCell']) (by omega) (Nat.le_trans (Nat.le_trans zW zqan) zyan) ?_))
       intro vann wann owann gann
       obtain ⟨koutann, ko6ann, r6ann, hb6ann⟩ := Bv (.cells #[.slice na rk.name.length nc, .int .i64 rk.type, .int .i64 rk.ttl, .int .i64 rk.addr, .slice ta rk.to.length tc, .slice xa rk.text.length xc, .slice ia rk.nums.length ic] 39) (UB KOan) (UB HBan) zW (UB HXOan) (UB HXSan) owann gann (show HasR w (.slice na rk.name.length nc) (.slice ta rk.to.length tc) (.slice xa rk.text.length xc) (.slice ia rk.nums.length ic) rk from ⟨(UB HU0).name, (UB HU0).to, (UB HU0).text, (UB HU0).nums⟩)
       generalize hlann : lan ++ [rk] = lann at r6ann
       have HLann := UC hlann
       have hlleann : lann.length ≤ lan.length + 1 := by rw [← hlann, List.length_append]; exact Nat.le_refl _
       obtain ⟨vaann, vcann, rfl⟩ := r6ann.slice
       obtain ⟨o0bann, o1bann⟩ := UM koutann
       obtain ⟨f0bann, f1bann⟩ := Am koutann
       have ROWann := UC r6ann
       have HBann := UC hb6ann
       have KOann := UC ko6ann
       clear owann gann r6ann hb6ann koutann ko6ann hlann o0an o1an
       go_wp2_with fail
       have hst : addK r rs (k + 1) = (lann, true) := by
        rw [UB HSTEP]
        rw [← UB HLann, ← UB HLan]
        simp [hle, hne]
       exact ⟨⟨k + 1, _, by omega, by go_num, by rw [hst], UB KOann, by rw [hst]; exact UB ROWann, UB HBann⟩, by simp [intOf]; omega⟩
      ·clear hc0
       obtain ⟨xsa, hxoa, hxsa⟩ := UB ROWa
       have bya := UI (w := w3) (.cells #[.slice na rk.name.length nc, .int .i64 rk.type, .int .i64 rk.ttl, .int .i64 rk.addr, .slice ta rk.to.length tc, .slice xa rk.text.length xc, .slice ia rk.nums.length ic] 39)
       obtain ⟨o0a, o1a⟩ := UM (UB KOa)
       have HXOa := UC hxoa
       have HXSa := UC hxsa
       have zqa := (UB HBa).size
       have zya := bya.size
       have HXBa := UC (At hxoa bya)
       clear hxoa hxsa bya
       go_wp2_with (at_builtin; (refine A5 rfl _ _ 26 39 rfl Tryz.underlying26 _ Ca rfl (w.heap.size + 4) _ l0.length xsa rfl (UB HXBa) _ (Ah (.slice na rk.name.length nc) (.slice ta rk.to.length tc) (.slice xa rk.text.length xc) (.slice ia rk.nums.length ic) rk) rfl (heap_alloc_new _ _) rfl (by simp [Ah, Value.oneCell']) (by omega) (Nat.le_trans (Nat.le_trans zW zqa) zya) ?_))
       intro van wan owan gan
       obtain ⟨koutan, ko6an, r6an, hb6an⟩ := Bv (.cells #[.slice na rk.name.length nc, .int .i64 rk.type, .int .i64 rk.ttl, .int .i64 rk.addr, .slice ta rk.to.length tc, .slice xa rk.text.length xc, .slice ia rk.nums.length ic] 39) (UB KOa) (UB HBa) zW (UB HXOa) (UB HXSa) owan gan (show HasR w (.slice na rk.name.length nc) (.slice ta rk.to.length tc) (.slice xa rk.text.length xc) (.slice ia rk.nums.length ic) rk from ⟨(UB HU0).name, (UB HU0).to, (UB HU0).text, (UB HU0).nums⟩)
       generalize hlan : l0 ++ [rk] = lan at r6an
       have HLan := UC hlan
       have hllean : lan.length ≤ l0.length + 1 := by rw [← hlan, List.length_append]; exact Nat.le_refl _
       obtain ⟨vaan, vcan, rfl⟩ := r6an.slice
       obtain ⟨o0ban, o1ban⟩ := UM koutan
       obtain ⟨f0ban, f1ban⟩ := Am koutan
       have ROWan := UC r6an
       have HBan := UC hb6an
       have KOan := UC ko6an
       clear owan gan r6an hb6an koutan ko6an hlan o0a o1a
       go_wp2_with fail
       have hst : addK r rs (k + 1) = (lan, false) := by
        rw [UB HSTEP]
        rw [← UB HLan]
        simp [hle, hne]
       exact ⟨⟨k + 1, _, by omega, by go_num, by rw [hst], UB KOan, by rw [hst]; exact UB ROWan, UB HBan⟩, by simp [intOf]; omega⟩
    | true =>
     by_cases hc0 : c = 0
     ·subst hc0
      go_wp2_with fail
      have hst : addK r rs (k + 1) = (l0, true) := by
       rw [UB HSTEP]
       skip
       simp
      exact ⟨⟨k + 1, _, by omega, by go_num, by rw [hst], UB KOa, by rw [hst]; exact UB ROWa, UB HBa⟩, by simp [intOf]; omega⟩
     ·have hne : ¬ c = 0 := hc0
      have hneb : (c != 0) = true := by rw [bne_iff_ne]; exact hc0
      clear hc0
      obtain ⟨xsa, hxoa, hxsa⟩ := UB ROWa
      have bya := UI (w := w3) (.cells #[.slice na rk.name.length nc, .int .i64 rk.type, .int .i64 rk.ttl, .int .i64 rk.addr, .slice ta rk.to.length tc, .slice xa rk.text.length xc, .slice ia rk.nums.length ic] 39)
      obtain ⟨o0a, o1a⟩ := UM (UB KOa)
      have HXOa := UC hxoa
      have HXSa := UC hxsa
      have zqa := (UB HBa).size
      have zya := bya.size
      have HXBa := UC (At hxoa bya)
      clear hxoa hxsa bya
      go_wp2_with (at_builtin; (refine A5 rfl _ _ 26 39 rfl Tryz.underlying26 _ Ca rfl (w.heap.size + 4) _ l0.length xsa rfl (UB HXBa) _ (Ah (.slice na rk.name.length nc) (.slice ta rk.to.length tc) (.slice xa rk.text.length xc) (.slice ia rk.nums.length ic) rk) rfl (heap_alloc_new _ _) rfl (by simp [Ah, Value.oneCell']) (by omega) (Nat.le_trans (Nat.le_trans zW zqa) zya) ?_))
      intro van wan owan gan
      obtain ⟨koutan, ko6an, r6an, hb6an⟩ := Bv (.cells #[.slice na rk.name.length nc, .int .i64 rk.type, .int .i64 rk.ttl, .int .i64 rk.addr, .slice ta rk.to.length tc, .slice xa rk.text.length xc, .slice ia rk.nums.length ic] 39) (UB KOa) (UB HBa) zW (UB HXOa) (UB HXSa) owan gan (show HasR w (.slice na rk.name.length nc) (.slice ta rk.to.length tc) (.slice xa rk.text.length xc) (.slice ia rk.nums.length ic) rk from ⟨(UB HU0).name, (UB HU0).to, (UB HU0).text, (UB HU0).nums⟩)
      generalize hlan : l0 ++ [rk] = lan at r6an
      have HLan := UC hlan
      have hllean : lan.length ≤ l0.length + 1 := by rw [← hlan, List.length_append]; exact Nat.le_refl _
      obtain ⟨vaan, vcan, rfl⟩ := r6an.slice
      obtain ⟨o0ban, o1ban⟩ := UM koutan
      obtain ⟨f0ban, f1ban⟩ := Am koutan
      have ROWan := UC r6an
      have HBan := UC hb6an
      have KOan := UC ko6an
      clear owan gan r6an hb6an koutan ko6an hlan o0a o1a
      go_wp2_with fail
      have hst : addK r rs (k + 1) = (lan, true) := by
       rw [UB HSTEP]
       rw [← UB HLan]
       simp [hne]
      exact ⟨⟨k + 1, _, by omega, by go_num, by rw [hst], UB KOan, by rw [hst]; exact UB ROWan, UB HBan⟩, by simp [intOf]; omega⟩
  ·obtain rfl : k = m := by omega
   have hend := UB HEND
   generalize hA : addK r rs k = A at *
   obtain ⟨l0, p0⟩ := A
   dsimp only at hend hrow hout hlen0
   dsimp only
   have ks := (hb.block _ (by omega)).trans (UB KS)
   have KRr := UC ((hb.block _ (by omega)).trans (UB KR))
   have hkm : ¬ (k : Int) < k := by omega
   have HBW := UC bw
   have ROWa := UC hrow
   have KOa := UC hout
   have HBa := UC hb
   cases p0 with
   | true =>
    rw [if_pos rfl, List.append_nil] at hend
    subst hend
    obtain ⟨o0, o1⟩ := UM hout
    obtain ⟨r0, r1⟩ := UM ks
    obtain ⟨f0, f1⟩ := Am ks
    have KSS := UC ks
    clear ks hrow bw hout kz hb hA
    go_wp2_with fail
    clear o0 o1 r0 r1 f0 f1 z0 z1
    have kf : ((wr.setCell ⟨w.heap.size + 2, 0, none⟩ (.slice oa o.length oc)).setCell ⟨w.heap.size + 2, 1, none⟩ (.slice va l0.length vc)).heap[w.heap.size + 2]? = some (.cells #[.slice oa o.length oc, .slice va l0.length vc] 28) := UV (UV (UB KSS) 0 _) 1 _
    have R6 := ((UB ROWa).off (Ab wr ⟨w.heap.size + 2, 0, none⟩ (.slice oa o.length oc)) (by show w.heap.size + 2 < w.heap.size + 4; omega)).off (Ab _ ⟨w.heap.size + 2, 1, none⟩ (.slice va l0.length vc)) (by show w.heap.size + 2 < w.heap.size + 4; omega)
    have b6 : Below w.heap.size w ((wr.setCell ⟨w.heap.size + 2, 0, none⟩ (.slice oa o.length oc)).setCell ⟨w.heap.size + 2, 1, none⟩ (.slice va l0.length vc)) := ((UB HBW).setCell (by show w.heap.size ≤ w.heap.size + 2; omega) _).setCell (by show w.heap.size ≤ w.heap.size + 2; omega) _
    refine bodyPost_ret (results_cell_row rfl _ _ (w.heap.size + 2) 28 #[.slice oa o.length oc, .slice va l0.length vc] (0, 0) _ rfl kf Tryz.underlying28 rfl (by kernel_rfl)) rfl ?_
    exact ⟨_, rfl, ⟨(UB HE).name.below b6, R6.has b6⟩, b6⟩
   | false =>
    rw [if_neg (fun q => Bool.noConfusion q)] at hend
    have HEND2 := UC hend
    obtain ⟨y0, y1, y2, y3, y4, y5, y6⟩ := UJ (UB KRr)
    have KSS := UC ks
    clear ks hrow bw hout kz hb hA hend
    obtain ⟨xsa, hxoa, hxsa⟩ := UB ROWa
    have bya := UI (w := wr) (.cells #[.slice una r.name.length unc, .int .i64 r.type, .int .i64 r.ttl, .int .i64 r.addr, .slice uta r.to.length utc, .slice uxa r.text.length uxc, .slice uia r.nums.length uic] 39)
    obtain ⟨o0a, o1a⟩ := UM (UB KOa)
    have HXOa := UC hxoa
    have HXSa := UC hxsa
    have zqa := (UB HBa).size
    have zya := bya.size
    have HXBa := UC (At hxoa bya)
    clear hxoa hxsa bya
    go_wp2_with (at_builtin; (refine A5 rfl _ _ 26 39 rfl Tryz.underlying26 _ Ca rfl (w.heap.size + 4) _ l0.length xsa rfl (UB HXBa) _ (Ah (.slice una r.name.length unc) (.slice uta r.to.length utc) (.slice uxa r.text.length uxc) (.slice uia r.nums.length uic) r) rfl (heap_alloc_new _ _) rfl (by simp [Ah, Value.oneCell']) (by omega) (Nat.le_trans (Nat.le_trans zW zqa) zya) ?_))
    intro van wan owan gan
    obtain ⟨koutan, ko6an, r6an, hb6an⟩ := Bv (.cells #[.slice una r.name.length unc, .int .i64 r.type, .int .i64 r.ttl, .int .i64 r.addr, .slice uta r.to.length utc, .slice uxa r.text.length uxc, .slice uia r.nums.length uic] 39) (UB KOa) (UB HBa) zW (UB HXOa) (UB HXSa) owan gan (UB HX0)
    generalize hlan : l0 ++ [r] = lan at r6an
    have HLan := UC hlan
    have hllean : lan.length ≤ l0.length + 1 := by rw [← hlan, List.length_append]; exact Nat.le_refl _
    obtain ⟨vaan, vcan, rfl⟩ := r6an.slice
    obtain ⟨o0ban, o1ban⟩ := UM koutan
    obtain ⟨f0ban, f1ban⟩ := Am koutan
    have ROWan := UC r6an
    have HBan := UC hb6an
    have KOan := UC ko6an
    clear owan gan r6an hb6an koutan ko6an hlan o0a o1a
    have hk6 := UB HLan
    rw [UB HEND2] at hk6
    subst hk6
    have ks6 := ((UB HBan).block _ (by omega)).trans (((UB HBa).block _ (by omega)).symm.trans (UB KSS))
    obtain ⟨o0, o1⟩ := UM (UB KOan)
    obtain ⟨r0, r1⟩ := UM ks6
    obtain ⟨f0, f1⟩ := Am ks6
    have KS6 := UC ks6
    clear ks6 y0 y1 y2 y3 y4 y5 y6
    go_wp2_with fail
    generalize hW9 : wan.setCell ⟨w.heap.size + 3, 1, none⟩ (.slice vaan KP.length vcan) = w9 at *
    have kf : ((w9.setCell ⟨w.heap.size + 2, 0, none⟩ (.slice oa o.length oc)).setCell ⟨w.heap.size + 2, 1, none⟩ (.slice vaan KP.length vcan)).heap[w.heap.size + 2]? = some (.cells #[.slice oa o.length oc, .slice vaan KP.length vcan] 28) := UV (UV (UB KS6) 0 _) 1 _
    have R6 := ((UB ROWan).off (Ab w9 ⟨w.heap.size + 2, 0, none⟩ (.slice oa o.length oc)) (by show w.heap.size + 2 < w.heap.size + 4; omega)).off (Ab _ ⟨w.heap.size + 2, 1, none⟩ (.slice vaan KP.length vcan)) (by show w.heap.size + 2 < w.heap.size + 4; omega)
    have b5 : Below w.heap.size w w9 := bb.trans ((UB HBan).mono (by omega))
    have b6 : Below w.heap.size w ((w9.setCell ⟨w.heap.size + 2, 0, none⟩ (.slice oa o.length oc)).setCell ⟨w.heap.size + 2, 1, none⟩ (.slice vaan KP.length vcan)) := (b5.setCell (by show w.heap.size ≤ w.heap.size + 2; omega) _).setCell (by show w.heap.size ≤ w.heap.size + 2; omega) _
    refine bodyPost_ret (results_cell_row rfl _ _ (w.heap.size + 2) 28 #[.slice oa o.length oc, .slice vaan KP.length vcan] (0, 0) _ rfl kf Tryz.underlying28 rfl (by kernel_rfl)) rfl ?_
    exact ⟨_, rfl, ⟨(UB HE).name.below b6, R6.has b6⟩, b6⟩
end Go.Proofs.YtfneahdnpmamkaaGreat
