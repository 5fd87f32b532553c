/-
  Contract of the program's DropSet. Contract of the program's SetOf. Contract of the program's Bump.
-/
import Derived.Test.YthobpbnaklnbiaaGreatFnDropSetsG45
namespace Go.Proofs.YthobpbnaklnbiaaGreat
open Go.RowKit Go.Shelf
set_option linter.unusedVariables false

set_option maxHeartbeats 4000000 in
set_option maxRecDepth 100000 in
theorem Ms {vo vr v : Value} {o n : List (List Int)} {rs : List Rec} (t : Int) {w : World} (h : HasZ w vo vr o rs) (hn : HasL w v n) :
  Calls Tryz.prog 6 #[.agg #[vo, vr], .agg #[v], .int .i64 t] w fun e w' => ∃ uo ur, e = .returned (.tuple #[.agg #[uo, ur], .int .i64 (Bb o rs n t).2]) ∧ OwnZ w.heap.size w'.heap.size w' uo ur (Bb o rs n t).1.1 (Bb o rs n t).1.2 ∧ Below w.heap.size w w' := by
 obtain ⟨oa, oc, rfl, _⟩ := h.name.form
 obtain ⟨ra, rc, rfl, _⟩ := h.recs.form
 obtain ⟨a, cap, rfl, _⟩ := hn.form
 obtain ⟨hsz, k0, x0⟩ := box2 w (.cells #[.slice oa o.length oc, .slice ra rs.length rc] 28) #[.slice a n.length cap] 25
 have b0 := Ba w (.cells #[.slice oa o.length oc, .slice ra rs.length rc] 28) (.cells #[.slice a n.length cap] 25)
 have b1 := UI (w := (w.alloc (.cells #[.slice oa o.length oc, .slice ra rs.length rc] 28)).alloc (.cells #[.slice a n.length cap] 25)) (.cells #[.slice none 0 0, .slice none 0 0] 28)
 have r0 := heap_alloc_new ((w.alloc (.cells #[.slice oa o.length oc, .slice ra rs.length rc] 28)).alloc (.cells #[.slice a n.length cap] 25)) (.cells #[.slice none 0 0, .slice none 0 0] 28)
 rw [hsz] at r0
 have bb := UG b0 b1
 have KZ := UC (UE b1 k0)
 have KN := UC (UE b1 x0)
 have KR := UC r0
 have HH := UC (h.below bb)
 have HN := UC (hn.below bb)
 have HO := Ct (h.below bb)
 obtain ⟨c0, c1⟩ := UM (UB KZ)
 have zr := VC r0
 clear h hn k0 x0 r0 hsz b0 b1
 generalize hres : Bb o rs n t = res
 unfold Bb at hres
 cases hz : Ak o rs with
 | false =>
  rw [if_neg (fun q => by rw [hz] at q; cases q.1)] at hres
  subst hres
  rw [hz] at HO
  replace HO := UC HO
  go_enter Tryz.func6, Tryz.ntmps6
  go_wp2_with fail
  generalize ((w.alloc (.cells #[.slice oa o.length oc, .slice ra rs.length rc] 28)).alloc (.cells #[.slice a n.length cap] 25)).alloc (.cells #[.slice none 0 0, .slice none 0 0] 28) = W at *
  refine (UB HO).mono ?_
  rintro e w1 ⟨rfl, b1⟩
  replace bb := UG bb b1
  have z1 := b1.size
  obtain ⟨d0, d1⟩ := UM (UE b1 (UB KR))
  obtain ⟨f0, f1⟩ := Ao (UE b1 (UB KR))
  have R1 := UC (UE b1 (UB KR))
  clear c0 c1 b1 HO
  go_wp2_with fail
  clear d0 d1 f0 f1
  have kf : ((w1.setCell ⟨w.heap.size + 2, 0, none⟩ (.slice none 0 0)).setCell ⟨w.heap.size + 2, 1, none⟩ (.slice none 0 0)).heap[w.heap.size + 2]? = some (.cells #[.slice none 0 0, .slice none 0 0] 28) := UV (UV (UB R1) 0 _) 1 _
  have u5 := (UT w1 (w.heap.size + 2) 0 (.slice none 0 0)).trans (UT _ (w.heap.size + 2) 1 (.slice none 0 0))
  have z5 := u5.size
  have zb0 := bb.size
  refine bodyPost_ret (Ag rfl _ _ (w.heap.size + 2) 28 #[.slice none 0 0, .slice none 0 0] (0, 0) _ rfl kf Tryz.underlying28 rfl (by kernel_rfl)) rfl ?_
  exact ⟨_, _, rfl, ⟨w.heap.size, Nat.le_refl _, Nat.le_trans zb0 z5, Lx _ _ _ _ _, RowO.nil _ _ _ _ _ _ _⟩, u5.below bb (by omega)⟩
 | true =>
  rw [hz] at HO
  replace HO := UC HO
  cases hnm : Af n with
  | false =>
   rw [if_neg (fun q => by rw [hnm] at q; cases q.2.1)] at hres
   subst hres
   go_enter Tryz.func6, Tryz.ntmps6
   go_wp2_with fail
   generalize ((w.alloc (.cells #[.slice oa o.length oc, .slice ra rs.length rc] 28)).alloc (.cells #[.slice a n.length cap] 25)).alloc (.cells #[.slice none 0 0, .slice none 0 0] 28) = W at *
   refine (UB HO).mono ?_
   rintro e w1 ⟨rfl, b1⟩
   have HM := VP ((UB HN).below b1)
   rw [hnm] at HM
   replace HM := UC HM
   have d2 := US (UE b1 (UB KN))
   replace bb := UG bb b1
   replace HH := UC ((UB HH).below b1)
   replace HN := UC ((UB HN).below b1)
   replace KZ := UC (UE b1 (UB KZ))
   replace KN := UC (UE b1 (UB KN))
   replace KR := UC (UE b1 (UB KR))
   have z1 := b1.size
   clear c0 c1 b1 HO
   go_wp2_with fail
   refine (UB HM).mono ?_
   rintro e w2 ⟨rfl, b2⟩
   replace bb := UG bb b2
   replace HH := UC ((UB HH).below b2)
   replace HN := UC ((UB HN).below b2)
   replace KZ := UC (UE b2 (UB KZ))
   replace KN := UC (UE b2 (UB KN))
   have z2 := b2.size
   obtain ⟨d0, d1⟩ := UM (UE b2 (UB KR))
   obtain ⟨f0, f1⟩ := Ao (UE b2 (UB KR))
   have R1 := UC (UE b2 (UB KR))
   clear d2 b2 HM
   go_wp2_with fail
   clear d0 d1 f0 f1
   have kf : ((w2.setCell ⟨w.heap.size + 2, 0, none⟩ (.slice none 0 0)).setCell ⟨w.heap.size + 2, 1, none⟩ (.slice none 0 0)).heap[w.heap.size + 2]? = some (.cells #[.slice none 0 0, .slice none 0 0] 28) := UV (UV (UB R1) 0 _) 1 _
   have u5 := (UT w2 (w.heap.size + 2) 0 (.slice none 0 0)).trans (UT _ (w.heap.size + 2) 1 (.slice none 0 0))
   have z5 := u5.size
   have zb0 := bb.size
   refine bodyPost_ret (Ag rfl _ _ (w.heap.size + 2) 28 #[.slice none 0 0, .slice none 0 0] (0, 0) _ rfl kf Tryz.underlying28 rfl (by kernel_rfl)) rfl ?_
   exact ⟨_, _, rfl, ⟨w.heap.size, Nat.le_refl _, Nat.le_trans zb0 z5, Lx _ _ _ _ _, RowO.nil _ _ _ _ _ _ _⟩, u5.below bb (by omega)⟩
  | true =>
   cases hq : Hj t with
   | false =>
    rw [if_neg (fun q => by rw [hq] at q; cases q.2.2)] at hres
    subst hres
    have AK := UC (fun w => L8 t w)
    rw [hq] at AK
    clear hq
    go_enter Tryz.func6, Tryz.ntmps6
    go_wp2_with fail
    generalize ((w.alloc (.cells #[.slice oa o.length oc, .slice ra rs.length rc] 28)).alloc (.cells #[.slice a n.length cap] 25)).alloc (.cells #[.slice none 0 0, .slice none 0 0] 28) = W at *
    refine (UB HO).mono ?_
    rintro e w1 ⟨rfl, b1⟩
    have HM := VP ((UB HN).below b1)
    rw [hnm] at HM
    replace HM := UC HM
    have d2 := US (UE b1 (UB KN))
    replace bb := UG bb b1
    replace HH := UC ((UB HH).below b1)
    replace HN := UC ((UB HN).below b1)
    replace KZ := UC (UE b1 (UB KZ))
    replace KN := UC (UE b1 (UB KN))
    replace KR := UC (UE b1 (UB KR))
    have z1 := b1.size
    clear c0 c1 b1 HO
    go_wp2_with fail
    refine (UB HM).mono ?_
    rintro e w2 ⟨rfl, b2⟩
    replace bb := UG bb b2
    replace HH := UC ((UB HH).below b2)
    replace HN := UC ((UB HN).below b2)
    replace KZ := UC (UE b2 (UB KZ))
    replace KN := UC (UE b2 (UB KN))
    have z2 := b2.size
    clear d2 HM
    go_wp2_with fail
    refine (UB AK _).mono ?_
    rintro e w3 ⟨rfl, rfl⟩
    obtain ⟨d0, d1⟩ := UM (UE b2 (UB KR))
    obtain ⟨f0, f1⟩ := Ao (UE b2 (UB KR))
    have R1 := UC (UE b2 (UB KR))
    clear b2
    go_wp2_with fail
    clear d0 d1 f0 f1
    have kf : ((w2.setCell ⟨w.heap.size + 2, 0, none⟩ (.slice none 0 0)).setCell ⟨w.heap.size + 2, 1, none⟩ (.slice none 0 0)).heap[w.heap.size + 2]? = some (.cells #[.slice none 0 0, .slice none 0 0] 28) := UV (UV (UB R1) 0 _) 1 _
    have u5 := (UT w2 (w.heap.size + 2) 0 (.slice none 0 0)).trans (UT _ (w.heap.size + 2) 1 (.slice none 0 0))
    have z5 := u5.size
    have zb0 := bb.size
    refine bodyPost_ret (Ag rfl _ _ (w.heap.size + 2) 28 #[.slice none 0 0, .slice none 0 0] (0, 0) _ rfl kf Tryz.underlying28 rfl (by kernel_rfl)) rfl ?_
    exact ⟨_, _, rfl, ⟨w.heap.size, Nat.le_refl _, Nat.le_trans zb0 z5, Lx _ _ _ _ _, RowO.nil _ _ _ _ _ _ _⟩, u5.below bb (by omega)⟩
   | true =>
    rw [if_pos ⟨hz, hnm, hq⟩] at hres
    subst hres
    dsimp only
    have AK := UC (fun w => L8 t w)
    rw [hq] at AK
    have HOK := UC (Du hz)
    have h60 := (Au hz).2.2
    have hoo := (of_decide_eq_true hz).1
    have hsh := S9 (n := n) hz t
    have hgz := Gw hz
    obtain ⟨hs1, hs2, hs3⟩ := Kx hz hnm t
    have hset := setB_Z hz hnm t
    have hfit := fun L : List Rec => Wk (J6 hgz L) (D9.dropAll (book_60 hz) (L := L)) (by omega)
    have hsel := Ui (n := n) hz t
    have SB := UC (fun (n0 b : Nat) (w : World) (v : Value) (hB : Ch n0 w b (Cp rs)) (hn : HasL w v n) => Yu t hB hz hnm hn)
    rw [hset] at hs1 hs2
    change Gl (dropAll (selK n t rs rs.length) (Cp rs)).1 = Dt n t rs at hs1
    generalize hL : selK n t rs rs.length = L at *
    generalize hD : Dt n t rs = D at *
    generalize hG : (rs.filter (Dr n t)).length = gk at *
    have HFIT := UC (hfit L)
    have HSORT := UC hs1
    have HCNT := UC hs2
    have HSEL := UC hsel.2
    have hL60 := hsel.1
    have HOO := UC hoo
    have hD60 := hsh.1
    have hgk : gk ≤ 60 := by rw [← hG]; exact Nat.le_trans (List.length_filter_le _ _) h60
    clear hD hG hL hsh hoo hq hs1 hs2 hs3 hset hfit hsel hgz
    go_enter Tryz.func6, Tryz.ntmps6
    go_wp2_with fail
    generalize ((w.alloc (.cells #[.slice oa o.length oc, .slice ra rs.length rc] 28)).alloc (.cells #[.slice a n.length cap] 25)).alloc (.cells #[.slice none 0 0, .slice none 0 0] 28) = W at *
    refine (UB HO).mono ?_
    rintro e w1 ⟨rfl, b1⟩
    have HM := VP ((UB HN).below b1)
    rw [hnm] at HM
    replace HM := UC HM
    have d2 := US (UE b1 (UB KN))
    replace bb := UG bb b1
    replace HH := UC ((UB HH).below b1)
    replace HN := UC ((UB HN).below b1)
    replace KZ := UC (UE b1 (UB KZ))
    replace KN := UC (UE b1 (UB KN))
    replace KR := UC (UE b1 (UB KR))
    have z1 := b1.size
    clear c0 c1 b1 HO
    go_wp2_with fail
    refine (UB HM).mono ?_
    rintro e w2 ⟨rfl, b2⟩
    replace bb := UG bb b2
    replace HH := UC ((UB HH).below b2)
    replace HN := UC ((UB HN).below b2)
    replace KZ := UC (UE b2 (UB KZ))
    replace KN := UC (UE b2 (UB KN))
    have z2 := b2.size
    replace KR := UC (UE b2 (UB KR))
    clear d2 b2 HM
    go_wp2_with fail
    refine (UB AK _).mono ?_
    rintro e w2' ⟨rfl, rfl⟩
    have BK := UC (Og (UB HH) (UB HOK) (by omega))
    obtain ⟨c0, c1⟩ := UM (UB KZ)
    go_wp2_with fail
    refine (UB BK).mono ?_
    rintro e w3 ⟨rfl, hB3, b3⟩
    rw [Zc] at hB3
    replace bb := UG bb b3
    replace HH := UC ((UB HH).below b3)
    replace HN := UC ((UB HN).below b3)
    replace KZ := UC (UE b3 (UB KZ))
    replace KN := UC (UE b3 (UB KN))
    replace KR := UC (UE b3 (UB KR))
    have z3 := b3.size
    clear c0 c1 b3 BK HOK
    have ST := UC (UB SB _ _ _ _ hB3 (UB HN))
    have HB3 := UC hB3
    have d2 := US (UB KN)
    clear hB3 SB
    go_wp2_with fail
    refine (UB ST).mono ?_
    rintro e w4 ⟨u4, rfl, o4, b4⟩
    obtain ⟨la, lc, rfl, _⟩ := o4.form
    replace bb := UG bb b4
    have HO4 := UC ((UB HH).name.below b4)
    replace KZ := UC (UE b4 (UB KZ))
    replace KR := UC (UE b4 (UB KR))
    have HB4 := UC ((UB HB3).below b4)
    have HL4 := UC o4
    have z4 := b4.size
    have zb4 := bb.size
    generalize hm : L.length = m at *
    have HM := UC hm
    clear d2 b4 o4 ST HB3 HN KN HH hm
    go_wp2_with fail
    go_loopw [9, 33] (fun cnt i wr => ∃ k : Nat, k ≤ m ∧ i = .int .i64 k ∧ cnt = .int .i64 (dropAll (L.take k) (Cp rs)).2 ∧ Ch w2.heap.size wr (w2.heap.size + 1) (dropAll (L.take k) (Cp rs)).1 ∧ Ey w4 wr ∧ Below w2.heap.size w4 wr) (fun _ i _ => m - (intOf i).toNat)
    case atStart => exact ⟨0, Nat.zero_le _, rfl, by rw [List.take_zero]; rfl, by rw [List.take_zero]; exact UB HB4, Ey.refl _, Below.refl _ _⟩
    case round =>
     obtain ⟨k, hk, rfl, rfl, hBk, hko, hbk⟩ := hrel
     have zk := hbk.size
     have hcl := Nm (L.take k) (Cp rs)
     rw [List.length_take] at hcl
     by_cases hlt : k < m
     ·obtain ⟨g, off, na, nc, ta, tc, xa, xc, ia, ic, rfl, hbl, hc, hu⟩ := ((UB HL4).keptC (fun g c t q => hko.2 g _ q rfl)).has.here (k := k) (by rw [UB HM]; exact hlt)
      have hrk := UB HSEL k hlt
      have hstep := Re (L := L) (k := k) (B := Cp rs) (by rw [UB HM]; exact hlt)
      generalize hrkk : L.getD k recZ = rk at *
      have bx := UI (w := wr) (.cells #[.slice na rk.name.length nc, .int .i64 rk.type, .int .i64 rk.ttl, .int .i64 rk.addr, .slice ta rk.to.length tc, .slice xa rk.text.length xc, .slice ia rk.nums.length ic] 39)
      have kx := heap_alloc_new wr (.cells #[.slice na rk.name.length nc, .int .i64 rk.type, .int .i64 rk.ttl, .int .i64 rk.addr, .slice ta rk.to.length tc, .slice xa rk.text.length xc, .slice ia rk.nums.length ic] 39)
      have DR := Rs (hBk.below bx) (hu.below bx) hrk (by have := bx.size; omega)
      obtain ⟨c0, c1, c2, c3, c4, c5, c6⟩ := VH hc
      obtain ⟨x0, x1, x2, x3, x4, x5, x6⟩ := UJ kx
      have hkm : (k : Int) < m := by omega
      have KO1 := UC (hko.trans (By bx))
      have BK1 := UC (hbk.trans (bx.mono (by omega)))
      have HSTEP := UC hstep
      generalize (dropAll (L.take k) (Cp rs)).1 = Bk at *
      generalize (dropAll (L.take k) (Cp rs)).2 = ck at *
      have hckm : ck ≤ 60 := by omega
      cases hd : (Bs rk Bk).2 with
      | true =>
       rw [hd] at DR
       replace DR := UC DR
       clear hc hu hrkk hBk hko hbk bx kx hstep
       go_wp2_with fail
       clear c0 c1 c2 c3 c4 c5 c6 x0 x1 x2 x3 x4 x5 x6
       refine (UB DR).mono ?_
       rintro e w6 ⟨rfl, hB6, ko6, b6⟩
       go_wp2_with fail
       exact ⟨⟨k + 1, by omega, by go_num, by rw [(UB HSTEP).2, hd]; go_num, by rw [(UB HSTEP).1]; exact hB6, (UB KO1).trans ko6, (UB BK1).trans b6⟩, by simp [intOf]; omega⟩
      | false =>
       rw [hd] at DR
       replace DR := UC DR
       clear hc hu hrkk hBk hko hbk bx kx hstep
       go_wp2_with fail
       clear c0 c1 c2 c3 c4 c5 c6 x0 x1 x2 x3 x4 x5 x6
       refine (UB DR).mono ?_
       rintro e w6 ⟨rfl, hB6, ko6, b6⟩
       go_wp2_with fail
       exact ⟨⟨k + 1, by omega, by go_num, by rw [(UB HSTEP).2, hd]; rfl, by rw [(UB HSTEP).1]; exact hB6, (UB KO1).trans ko6, (UB BK1).trans b6⟩, by simp [intOf]; omega⟩
     ·obtain rfl : k = m := by omega
      have hall : L.take k = L := List.take_of_length_le (by rw [UB HM]; exact Nat.le_refl _)
      rw [hall] at hBk hcl
      rw [hall]
      have bd := UX (w := wr)
      have bb4 : Below w.heap.size w wr := bb.trans (hbk.mono (by omega))
      have HO5 := UC (((UB HO4).keptX hko.x).below bd)
      have KZ4 := UC (UE bd (hko.2 _ _ (UB KZ) rfl))
      have KR4 := UC (UE bd (hko.2 _ _ (UB KR) rfl))
      have HB5 := UC (hBk.below bd)
      have BB4 := UC (UG bb4 bd)
      have z5 := (UG bb4 bd).size
      rw [UB HCNT]
      clear hBk hko hbk bb bb4 bd KZ KR HO4 HB4 hall hcl
      go_wp2_with fail
      have ZO := UC (fun (w' : World) (hb : Below wr.drew.heap.size wr.drew w') => Tz ((UB HB5).below hb) ((UB HO5).below hb) (UB HOO) (UB HFIT).1 (UB HFIT).2 (by rw [UB HSORT]; omega))
      rw [UB HSORT] at ZO
      go_region_held3 (fun w' => w'.cell? ⟨w.heap.size, 0, none⟩ = some (.slice oa o.length oc) ∧ w'.cell? ⟨w.heap.size, 1, none⟩ = some (.slice ra rs.length rc))
       (first | exact UM (UB KZ4) | exact UM (UE q5 (UB KZ4)) | exact UM (UE q6 (UB KZ4)) | exact UM (Zi (UE q6 (UB KZ4)) (by omega)))
       (first
       | (go_at_call 28; refine (Ss _ _).mono ?_; rintro e w5 ⟨rfl, rfl⟩; have q5 := UI (w := wr.drew) (.cells #[.map (some (w2.heap.size + 1))] 52))
       | (go_at_call 27; refine (UB ZO _ (Below.refl _ _)).mono ?_; rintro e w6 ⟨uo, ur, rfl, o6, q6⟩; obtain ⟨pa, pc, rfl, _⟩ := o6.hasZ.name.form; obtain ⟨ga, gc, rfl, _⟩ := o6.hasZ.recs.form; obtain ⟨d0, d1⟩ := UM (UE q6 (UB KR4)); obtain ⟨f0, f1⟩ := Ao (UE q6 (UB KR4))))
      have R6 := UC (UE q6 (UB KR4))
      have bb6 := UG (UB BB4) q6
      have z6 := q6.size
      clear d0 d1 f0 f1
      go_wp2_with fail
      have kf : ((w6.setCell ⟨w.heap.size + 2, 0, none⟩ (.slice pa o.length pc)).setCell ⟨w.heap.size + 2, 1, none⟩ (.slice ga D.length gc)).heap[w.heap.size + 2]? = some (.cells #[.slice pa o.length pc, .slice ga D.length gc] 28) := UV (UV (UB R6) 0 _) 1 _
      have u5 := (UT w6 (w.heap.size + 2) 0 (.slice pa o.length pc)).trans (UT _ (w.heap.size + 2) 1 (.slice ga D.length gc))
      have z7 := u5.size
      have zr4 := VC (UB KR4)
      obtain ⟨s, s1, s2, s3, s4⟩ := o6
      refine bodyPost_ret (Ag rfl _ _ (w.heap.size + 2) 28 #[.slice pa o.length pc, .slice ga D.length gc] (0, 0) _ rfl kf Tryz.underlying28 rfl (by kernel_rfl)) rfl ?_
      exact ⟨_, _, rfl, ⟨s, by omega, Nat.le_trans s2 z7, (s3.outside u5 (by omega)).wide (by omega) (Nat.le_refl _), (s4.outside u5 (by omega)).wide (Nat.le_refl _) z7⟩, u5.below bb6 (by omega)⟩
end Go.Proofs.YthobpbnaklnbiaaGreat

namespace Go.Proofs.YthobpbnaklnbiaaGreat
open Go.RowKit Go.Shelf
set_option linter.unusedVariables false

set_option maxHeartbeats 2000000 in
set_option maxRecDepth 100000 in
theorem Jf {vo vr v : Value} {o n : List (List Int)} {rs : List Rec} (t : Int) {w : World} (h : HasZ w vo vr o rs) (hn : HasL w v n) :
  Calls Tryz.prog 10 #[.agg #[vo, vr], .agg #[v], .int .i64 t] w fun e w' => ∃ u, e = .returned u ∧ RowO w.heap.size w'.heap.size 39 22 5 3 w' u (Gt o rs n t) ∧ Below w.heap.size w w' := by
 obtain ⟨oa, oc, rfl, _⟩ := h.name.form
 obtain ⟨ra, rc, rfl, _⟩ := h.recs.form
 obtain ⟨a, cap, rfl, _⟩ := hn.form
 obtain ⟨hsz, k0, x0⟩ := box2 w (.cells #[.slice oa o.length oc, .slice ra rs.length rc] 28) #[.slice a n.length cap] 25
 have bb := Ba w (.cells #[.slice oa o.length oc, .slice ra rs.length rc] 28) (.cells #[.slice a n.length cap] 25)
 have HH := UC (h.below bb)
 have HN := UC (hn.below bb)
 have HO := Ct (h.below bb)
 have KZ := UC k0
 have KN := UC x0
 obtain ⟨c0, c1⟩ := UM k0
 clear h hn hsz k0 x0
 generalize hres : Gt o rs n t = res
 unfold Gt at hres
 cases hz : Ak o rs with
 | false =>
  rw [if_neg (fun q => by rw [hz] at q; cases q.1)] at hres
  subst hres
  rw [hz] at HO
  replace HO := UC HO
  go_enter Tryz.func10, Tryz.ntmps10
  go_wp2_with fail
  refine (UB HO).mono ?_
  rintro e w1 ⟨rfl, b1⟩
  go_wp2_with fail
  go_ret
  exact ⟨_, rfl, RowO.nil _ _ _ _ _ _ _, UG bb b1⟩
 | true =>
  rw [hz] at HO
  replace HO := UC HO
  cases hnm : Af n with
  | false =>
   rw [if_neg (fun q => by rw [hnm] at q; cases q.2)] at hres
   subst hres
   go_enter Tryz.func10, Tryz.ntmps10
   go_wp2_with fail
   refine (UB HO).mono ?_
   rintro e w1 ⟨rfl, b1⟩
   have HM := VP ((UB HN).below b1)
   rw [hnm] at HM
   replace HM := UC HM
   have d2 := US (UE b1 (UB KN))
   replace bb := UG bb b1
   clear c0 c1
   go_wp2_with fail
   refine (UB HM).mono ?_
   rintro e w2 ⟨rfl, b2⟩
   go_wp2_with fail
   go_ret
   exact ⟨_, rfl, RowO.nil _ _ _ _ _ _ _, UG bb b2⟩
  | true =>
   rw [if_pos ⟨hz, hnm⟩] at hres
   have hpg := Dp hz hnm
   have hsh := Kf (n := n) hz
   have hset := Rq hz hnm t
   rw [hres] at hset
   have HOK := UC (Du hz)
   have h60 := (Au hz).2.2
   have hsn := Ce hnm
   clear hres
   go_enter Tryz.func10, Tryz.ntmps10
   go_wp2_with fail
   refine (UB HO).mono ?_
   rintro e w1 ⟨rfl, b1⟩
   have HM := VP ((UB HN).below b1)
   rw [hnm] at HM
   replace HM := UC HM
   have d2 := US (UE b1 (UB KN))
   replace bb := UG bb b1
   replace HH := UC ((UB HH).below b1)
   replace HN := UC ((UB HN).below b1)
   replace KZ := UC (UE b1 (UB KZ))
   replace KN := UC (UE b1 (UB KN))
   clear c0 c1 b1 HO
   go_wp2_with fail
   refine (UB HM).mono ?_
   rintro e w2 ⟨rfl, b2⟩
   have b3 := UG b2 (UX (w := w2))
   replace bb := UG bb b3
   replace HH := UC ((UB HH).below b3)
   replace HN := UC ((UB HN).below b3)
   replace KZ := UC (UE b3 (UB KZ))
   replace KN := UC (UE b3 (UB KN))
   clear d2 b2 b3 HM
   have HPG := UC hpg
   have HSH := UC hsh
   have HSET := UC hset
   clear hpg hsh hset
   go_wp2_with fail
   go_region_held3 (fun w' => (w'.cell? ⟨w.heap.size, 0, none⟩ = some (.slice oa o.length oc) ∧ w'.cell? ⟨w.heap.size, 1, none⟩ = some (.slice ra rs.length rc)) ∧ w'.cell? ⟨w.heap.size + 1, 0, none⟩ = some (.slice a n.length cap))
    (first | exact ⟨UM (UB KZ), US (UB KN)⟩ | exact ⟨UM (UE q5 (UB KZ)), US (UE q5 (UB KN))⟩ | exact ⟨UM (UE b4 (UB KZ)), US (UE b4 (UB KN))⟩)
    (first
    | (go_at_call 24; refine (Og (UB HH) (UB HOK) (by omega)).mono ?_; rintro e w4 ⟨rfl, hB4, b4⟩)
    | (go_at_call 25; refine ((callsIn_wide (n := 7)).1 (Yd t hB4 ((UB HN).below b4) hsn (by unfold Ei; rw [UB HPG]; exact (UB HSH).1) (by unfold Ei; rw [UB HPG]; exact (UB HSH).2))).mono ?_; rintro e w5 ⟨u5, rfl, o5, b5⟩; have q5 := UG b4 b5))
   unfold Ei at o5
   rw [UB HPG, UB HSET] at o5
   have z4 := b4.size
   have zz := bb.size
   go_wp2_with fail
   go_ret
   exact ⟨_, rfl, o5.wide (by omega) (Nat.le_refl _), UG bb q5⟩
end Go.Proofs.YthobpbnaklnbiaaGreat

namespace Go.Proofs.YthobpbnaklnbiaaGreat
open Go.RowKit Go.Shelf
set_option linter.unusedVariables false

theorem X7 (B E : Nat) (el eb : TypeId) (w : World) : OwnN B E el eb w (.slice none 0 0) [] := ⟨[], World.ownsRow_nil _ _ _ _, (fun i hi => absurd hi (by simp)), by simp, (fun q hq => by cases hq), by simp⟩
set_option maxHeartbeats 4000000 in
set_option maxRecDepth 100000 in
theorem Rx {vo vr : Value} {o : List (List Int)} {rs : List Rec} {w : World} (h : HasZ w vo vr o rs) :
  Calls Tryz.prog 11 #[.agg #[vo, vr]] w fun e w' => ∃ uo ur, e = .returned (.tuple #[.agg #[uo, ur], .bool (Jm o rs).2]) ∧ OwnZ w.heap.size w'.heap.size w' uo ur (Jm o rs).1.1 (Jm o rs).1.2 ∧ Below w.heap.size w w' := by
 obtain ⟨oa, oc, rfl, _⟩ := h.name.form
 obtain ⟨ra, rc, rfl, _⟩ := h.recs.form
 obtain ⟨hsz, k0, r0⟩ := box2 w (.cells #[.slice oa o.length oc, .slice ra rs.length rc] 28) #[.slice none 0 0, .slice none 0 0] 28
 have b0 := Ba w (.cells #[.slice oa o.length oc, .slice ra rs.length rc] 28) (.cells #[.slice none 0 0, .slice none 0 0] 28)
 have HH := UC (h.below b0)
 have ZO := UC (Ct (h.below b0))
 have K0 := UC k0
 have R0 := UC r0
 have zz := VC r0
 generalize hRes : Jm o rs = Res
 have HQ0 := UC hRes
 clear hRes hsz k0 r0 h
 obtain ⟨c0, c1⟩ := UM (UB K0)
 go_enter Tryz.func11, Tryz.ntmps11
 go_wp2_with fail
 clear c0 c1
 generalize (w.alloc (.cells #[.slice oa o.length oc, .slice ra rs.length rc] 28)).alloc (.cells #[.slice none 0 0, .slice none 0 0] 28) = W at *
 refine (UB ZO).mono ?_
 rintro e w1 ⟨rfl, b1⟩
 have bb := UG b0 b1
 have r1 := UE b1 (UB R0)
 have K1 := UC (UE b1 (UB K0))
 have H1 := UC ((UB HH).below b1)
 have z1 := b1.size
 have hRes := UB HQ0
 unfold Jm at hRes
 clear b0 b1 ZO K0 R0 HH HQ0
 cases hok : Ak o rs with
 | false =>
  rw [hok, if_neg (by simp)] at hRes
  subst hRes
  obtain ⟨d0, d1⟩ := UM r1
  obtain ⟨f0, f1⟩ := Ao r1
  have R1 := UC r1
  clear r1 hok
  go_wp2_with fail
  clear d0 d1 f0 f1
  have kf : ((w1.setCell ⟨w.heap.size + 1, 0, none⟩ (.slice none 0 0)).setCell ⟨w.heap.size + 1, 1, none⟩ (.slice none 0 0)).heap[w.heap.size + 1]? = some (.cells #[.slice none 0 0, .slice none 0 0] 28) := UV (UV (UB R1) 0 _) 1 _
  have u5 := (UT w1 (w.heap.size + 1) 0 (.slice none 0 0)).trans (UT _ (w.heap.size + 1) 1 (.slice none 0 0))
  have z5 := u5.size
  refine bodyPost_ret (Ag rfl _ _ (w.heap.size + 1) 28 #[.slice none 0 0, .slice none 0 0] (0, 0) _ rfl kf Tryz.underlying28 rfl (by kernel_rfl)) rfl ?_
  exact ⟨_, _, rfl, ⟨w.heap.size, Nat.le_refl _, by omega, X7 _ _ _ _ _, RowO.nil _ _ _ _ _ _ _⟩, u5.below bb (by omega)⟩
 | true =>
  rw [hok, if_pos rfl] at hRes
  subst hRes
  obtain ⟨s, x, y, hs, h6, hb6, hne, hnil, hxy, hx0, hx1, hbr⟩ := Xn hok
  have hsm : (s : Int) < rs.length := by omega
  have h60 := (Au hok).2.2
  have HC := UC (Km (UB H1) (Au hok).1.1 (Au hok).1.2 (Au hok).2.1 (Nat.le_trans (Au hok).2.2 (by decide)))
  have HS := UC hs
  have HXY := UC hxy
  have SA := UC (fun (w : World) (uo ur : Value) (h : HasZ w uo ur o rs) => P2 h hs h6 hb6 h60)
  have HBR : Hid (Cx rs = rs.set s ⟨(rs.getD s recZ).name, (rs.getD s recZ).type, (rs.getD s recZ).ttl, (rs.getD s recZ).addr, (rs.getD s recZ).to, (rs.getD s recZ).text, [Fv x, y]⟩) := by rw [hbr, Pf hxy]; exact UC rfl
  have hw1 : IntKind.i64.wrap (x + 1) = x + 1 := by
   have := Bl (x + 1).toNat (by omega)
   rwa [Int.toNat_of_nonneg (by omega)] at this
  have hw2 := Wh x hx0 hx1
  have R1 := UC r1
  obtain ⟨c0, c1⟩ := UM (UB K1)
  clear r1 hok hs h6 hb6 hne hnil hxy hbr H1
  go_wp2_with fail
  clear c0 c1
  refine (UB HC).mono ?_
  rintro e w2 ⟨uo, ur, rfl, ⟨t, t1, t2, oN, oR⟩, b2⟩
  obtain ⟨pa, pc, rfl, _⟩ := oN.hasL.form
  obtain ⟨g, q, cap, ic, rfl, cc, qB, qE, gl, ql, cx, fz, _⟩ := oR.bump (UB HS) (UB HXY)
  have ba := UI (w := w2) (.cells #[.slice pa o.length pc, .slice (some ⟨g, 0, none⟩) rs.length cap] 28)
  have kz := heap_alloc_new w2 (.cells #[.slice pa o.length pc, .slice (some ⟨g, 0, none⟩) rs.length cap] 28)
  have bd := UG ba (UX (w := w2.alloc (.cells #[.slice pa o.length pc, .slice (some ⟨g, 0, none⟩) rs.length cap] 28)))
  have z2 := b2.size
  have z3 := bd.size
  have zk : w2.heap.size < (w2.alloc (.cells #[.slice pa o.length pc, .slice (some ⟨g, 0, none⟩) rs.length cap] 28)).heap.size := VC kz
  have KZ := UC (UE (UX (w := w2.alloc (.cells #[.slice pa o.length pc, .slice (some ⟨g, 0, none⟩) rs.length cap] 28))) kz)
  have R3 := UC (UE bd (UE b2 (UB R1)))
  have ON := UC (oN.below bd)
  have OR := UC (oR.below bd)
  replace bb := UG (UG bb b2) bd
  have CC := UC ((bd.cell (p := ⟨g, s * 7 + 6, none⟩) gl).trans cc)
  have CX := UC ((bd.cell (p := ⟨q, 0, none⟩) ql).trans cx)
  have gl3 : g < (w2.alloc (.cells #[.slice pa o.length pc, .slice (some ⟨g, 0, none⟩) rs.length cap] 28)).drew.heap.size := by omega
  have HZ := UC (⟨(UB ON).hasL, (UB OR).has⟩ : HasZ (w2.alloc (.cells #[.slice pa o.length pc, .slice (some ⟨g, 0, none⟩) rs.length cap] 28)).drew (.slice pa o.length pc) (.slice (some ⟨g, 0, none⟩) rs.length cap) o rs)
  clear oN oR b2 cc cx fz ba bd kz R1 HC K1
  go_wp2_with fail
  go_region_held3 (fun w' => (w'.cell? ⟨w2.heap.size, 0, none⟩ = some (.slice pa o.length pc) ∧ w'.cell? ⟨w2.heap.size, 1, none⟩ = some (.slice (some ⟨g, 0, none⟩) rs.length cap)) ∧ w'.cell? ⟨g, s * 7 + 6, none⟩ = some (.slice (some ⟨q, 0, none⟩) 2 ic))
   (first | exact ⟨UM (UB KZ), UB CC⟩ | exact ⟨UM (UE b4 (UB KZ)), (b4.cell (p := ⟨g, s * 7 + 6, none⟩) gl3).trans (UB CC)⟩)
   (first
   | (go_at_call 38; refine (UB SA _ _ _ (UB HZ)).mono ?_; rintro e w4 ⟨rfl, b4⟩))
  have CC4 := (b4.cell (p := ⟨g, s * 7 + 6, none⟩) gl3).trans (UB CC)
  obtain ⟨g', q', cap', ic', ev, cc', _, _, gl', ql', cx', fz', hset⟩ := ((UB OR).below b4).bump (UB HS) (UB HXY)
  simp only [Value.slice.injEq, Option.some.injEq, Addr.mk.injEq, and_true, true_and] at ev
  obtain ⟨rfl, rfl⟩ := ev
  rw [CC4] at cc'
  simp only [Option.some.injEq, Value.slice.injEq, Addr.mk.injEq, and_true, true_and] at cc'
  obtain ⟨rfl, rfl⟩ := cc'
  have row5 := hset (Fv x)
  rw [← UB HBR] at row5
  have u5 := UT w4 q 0 (.int .i64 (Fv x))
  have z4 := b4.size
  have k4 := UE b4 (UB KZ)
  have r4 := UE b4 (UB R3)
  have KZ5 := UC (u5.kept k4 (by omega))
  have R5 := UC (u5.kept r4 (by omega))
  have ON5 := UC (((UB ON).below b4).outside u5 (by omega))
  have bb5 := u5.below (UG bb b4) (by omega)
  have ROW5 := UC row5
  have z5 := u5.size
  obtain ⟨d0, d1⟩ := UM k4
  obtain ⟨e0, e1⟩ := UM r4
  obtain ⟨f0, f1⟩ := Ao r4
  have hq1 : q ≠ w2.heap.size := by omega
  have hq2 : q ≠ w.heap.size + 1 := by omega
  have hq3 : w2.heap.size ≠ q := by omega
  have hq4 : w.heap.size + 1 ≠ q := by omega
  clear row5 hset u5 k4 r4 b4 KZ R3 ON OR HZ CC CX CC4 SA HBR
  go_wp2_with fail
  clear d0 d1 e0 e1 f0 f1 hq1 hq2 hq3 hq4 cx' fz' hw1 hw2
  generalize w4.setCell ⟨q, 0, none⟩ (.int .i64 (Fv x)) = w5 at *
  have hlen : (Cx rs).length = rs.length := Gd rs
  have kf : ((w5.setCell ⟨w.heap.size + 1, 0, none⟩ (.slice pa o.length pc)).setCell ⟨w.heap.size + 1, 1, none⟩ (.slice (some ⟨g, 0, none⟩) rs.length cap)).heap[w.heap.size + 1]? = some (.cells #[.slice pa o.length pc, .slice (some ⟨g, 0, none⟩) rs.length cap] 28) := UV (UV (UB R5) 0 _) 1 _
  have u6 := (UT w5 (w.heap.size + 1) 0 (.slice pa o.length pc)).trans (UT _ (w.heap.size + 1) 1 (.slice (some ⟨g, 0, none⟩) rs.length cap))
  have z6 := u6.size
  refine bodyPost_ret (Ag rfl _ _ (w.heap.size + 1) 28 #[.slice pa o.length pc, .slice (some ⟨g, 0, none⟩) rs.length cap] (0, 0) _ rfl kf Tryz.underlying28 rfl (by kernel_rfl)) rfl ?_
  exact ⟨_, _, rfl, ⟨t, by omega, by omega, ((UB ON5).outside u6 (by omega)).wide (by omega) (Nat.le_refl _), ((UB ROW5).outside u6 (by omega)).wide (Nat.le_refl _) (by omega)⟩, u6.below bb5 (by omega)⟩
end Go.Proofs.YthobpbnaklnbiaaGreat
