/-
  Contract of the specification's Add. Plain facts: the zone that a new one is made of, in memory. Contract of the specification's ZoneNew.
-/
import Derived.Test.YtfneahdnpmamkaaGreatFnOwnersG17
import Derived.Test.YtfneahdnpmamkaaGreatFnOwnersG22
namespace Go.Proofs.YtfneahdnpmamkaaGreat
open Go.RowKit
set_option linter.unusedVariables false

theorem Of {o : List (List Int)} {rs : List Rec} (hz : Ar o rs = true) {r : Rec} (hr : rrOk r = true) : ∀ k, k < (addL r rs false).length → ((addL r rs false).getD k recZ).name.length ≤ 1048576 := fun k hk => by
 have hm : (addL r rs false).getD k recZ ∈ addL r rs false := by
  rw [List.getD_eq_getElem?_getD, List.getElem?_eq_getElem hk]
  exact List.getElem_mem hk
 have hok : rrOk ((addL r rs false).getD k recZ) = true := by
  rcases Sd.1 hm with ⟨_, e⟩ | ⟨x, hx, _, e⟩
  ·rw [e]; exact hr
  ·rw [e]; exact Ye hr (oks_of hz x hx)
 have := (Ai (A2 hok).1).1
 omega

set_option maxHeartbeats 4000000 in
set_option maxRecDepth 100000 in
theorem Fy {vo vr vn vt vx vi : Value} {o : List (List Int)} {rs : List Rec} {r : Rec} {w : World} (h : HasZ w vo vr o rs) (hr : HasR w vn vt vx vi r) (hs : ∀ k, k < rs.length → (rs.getD k recZ).name.length ≤ 1048576) :
  Calls Tryz.prog 16 #[.agg #[vo, vr], .agg #[vn, .int .i64 r.type, .int .i64 r.ttl, .int .i64 r.addr, vt, vx, vi]] w fun e w' => ∃ uo ur, e = .returned (.tuple #[.agg #[uo, ur], .bool (Ef o rs r).2]) ∧ OwnL w.heap.size 22 5 w' uo (Ef o rs r).1.1 ∧ RowQ w.heap.size 39 22 5 3 w' ur (Ef o rs r).1.2 ∧ Below w.heap.size w w' := by
 obtain ⟨oa, oc, rfl, _⟩ := h.name.form
 obtain ⟨ra, rc, rfl, _⟩ := h.recs.form
 obtain ⟨na, nc, rfl, _⟩ := hr.name.form
 obtain ⟨ta, tc, rfl, _⟩ := hr.to.form
 obtain ⟨xa, xc, rfl, _⟩ := hr.text.form
 obtain ⟨ia, ic, rfl, _⟩ := hr.nums.form
 obtain ⟨hsz, k0, x0⟩ := box2 w (.cells #[.slice oa o.length oc, .slice ra rs.length rc] 28) #[.slice na r.name.length nc, .int .i64 r.type, .int .i64 r.ttl, .int .i64 r.addr, .slice ta r.to.length tc, .slice xa r.text.length xc, .slice ia r.nums.length ic] 39
 have b0 := Bl w (.cells #[.slice oa o.length oc, .slice ra rs.length rc] 28) (.cells #[.slice na r.name.length nc, .int .i64 r.type, .int .i64 r.ttl, .int .i64 r.addr, .slice ta r.to.length tc, .slice xa r.text.length xc, .slice ia r.nums.length ic] 39)
 have b1 := UI (w := (w.alloc (.cells #[.slice oa o.length oc, .slice ra rs.length rc] 28)).alloc (.cells #[.slice na r.name.length nc, .int .i64 r.type, .int .i64 r.ttl, .int .i64 r.addr, .slice ta r.to.length tc, .slice xa r.text.length xc, .slice ia r.nums.length ic] 39)) (.cells #[.slice none 0 0, .slice none 0 0] 28)
 have r0 := heap_alloc_new ((w.alloc (.cells #[.slice oa o.length oc, .slice ra rs.length rc] 28)).alloc (.cells #[.slice na r.name.length nc, .int .i64 r.type, .int .i64 r.ttl, .int .i64 r.addr, .slice ta r.to.length tc, .slice xa r.text.length xc, .slice ia r.nums.length ic] 39)) (.cells #[.slice none 0 0, .slice none 0 0] 28)
 rw [hsz] at r0
 have bb := UG b0 b1
 have KZ := UC (UE b1 k0)
 have KX := UC (UE b1 x0)
 have KR := UC r0
 have HH := UC (h.below bb)
 have HX := UC (hr.below bb)
 have HO := Ec (h.below bb) hs
 obtain ⟨c0, c1⟩ := UM (UB KZ)
 have zr := VC r0
 clear h hr k0 x0 r0 hsz b0 b1 hs
 generalize hres : Ef o rs r = res
 unfold Ef at hres
 cases hz : Ar o rs with
 | false =>
  rw [if_neg (fun q => by rw [hz] at q; cases q.1)] at hres
  subst hres
  rw [hz] at HO
  replace HO := UC HO
  go_enter Tryz.func16, Tryz.ntmps16
  go_wp2_with fail
  generalize ((w.alloc (.cells #[.slice oa o.length oc, .slice ra rs.length rc] 28)).alloc (.cells #[.slice na r.name.length nc, .int .i64 r.type, .int .i64 r.ttl, .int .i64 r.addr, .slice ta r.to.length tc, .slice xa r.text.length xc, .slice ia r.nums.length ic] 39)).alloc (.cells #[.slice none 0 0, .slice none 0 0] 28) = W at *
  refine (UB HO).mono ?_
  rintro e w1 ⟨rfl, b1⟩
  replace bb := UG bb b1
  have z1 := b1.size
  obtain ⟨d0, d1⟩ := UM (UE b1 (UB KR))
  obtain ⟨f0, f1⟩ := Am (UE b1 (UB KR))
  have R1 := UC (UE b1 (UB KR))
  clear c0 c1 b1 HO
  go_wp2_with fail
  clear d0 d1 f0 f1
  have kf : ((w1.setCell ⟨w.heap.size + 2, 0, none⟩ (.slice none 0 0)).setCell ⟨w.heap.size + 2, 1, none⟩ (.slice none 0 0)).heap[w.heap.size + 2]? = some (.cells #[.slice none 0 0, .slice none 0 0] 28) := UV (UV (UB R1) 0 _) 1 _
  have u5 := (UT w1 (w.heap.size + 2) 0 (.slice none 0 0)).trans (UT _ (w.heap.size + 2) 1 (.slice none 0 0))
  have z5 := u5.size
  have zb0 := bb.size
  refine bodyPost_ret (Ak rfl _ _ (w.heap.size + 2) 28 #[.slice none 0 0, .slice none 0 0] (0, 0) _ rfl kf Tryz.underlying28 rfl (by kernel_rfl)) rfl ?_
  exact ⟨_, _, rfl, ⟨[], by simpa using World.ownsRow_nil _ _ _ _, by simp, by simp⟩, RowQ.nil _ _ _ _ _ _, u5.below bb (by omega)⟩
 | true =>
  rw [hz] at HO
  replace HO := UC HO
  cases hrk : rrOk r with
  | false =>
   rw [if_neg (fun q => by rw [hrk] at q; cases q.2)] at hres
   subst hres
   go_enter Tryz.func16, Tryz.ntmps16
   go_wp2_with fail
   generalize ((w.alloc (.cells #[.slice oa o.length oc, .slice ra rs.length rc] 28)).alloc (.cells #[.slice na r.name.length nc, .int .i64 r.type, .int .i64 r.ttl, .int .i64 r.addr, .slice ta r.to.length tc, .slice xa r.text.length xc, .slice ia r.nums.length ic] 39)).alloc (.cells #[.slice none 0 0, .slice none 0 0] 28) = W at *
   refine (UB HO).mono ?_
   rintro e w1 ⟨rfl, b1⟩
   have HM := Gy ((UB HX).below b1)
   rw [hrk] at HM
   replace HM := UC HM
   obtain ⟨e0, e1, e2, e3, e4, e5, e6⟩ := UJ (UE b1 (UB KX))
   replace bb := UG bb b1
   replace KR := UC (UE b1 (UB KR))
   have z1 := b1.size
   clear c0 c1 b1 HO
   go_wp2_with fail
   refine (UB HM).mono ?_
   rintro e w2 ⟨rfl, b2⟩
   replace bb := UG bb b2
   have z2 := b2.size
   obtain ⟨d0, d1⟩ := UM (UE b2 (UB KR))
   obtain ⟨f0, f1⟩ := Am (UE b2 (UB KR))
   have R1 := UC (UE b2 (UB KR))
   clear e0 e1 e2 e3 e4 e5 e6 b2 HM
   go_wp2_with fail
   clear d0 d1 f0 f1
   have kf : ((w2.setCell ⟨w.heap.size + 2, 0, none⟩ (.slice none 0 0)).setCell ⟨w.heap.size + 2, 1, none⟩ (.slice none 0 0)).heap[w.heap.size + 2]? = some (.cells #[.slice none 0 0, .slice none 0 0] 28) := UV (UV (UB R1) 0 _) 1 _
   have u5 := (UT w2 (w.heap.size + 2) 0 (.slice none 0 0)).trans (UT _ (w.heap.size + 2) 1 (.slice none 0 0))
   have z5 := u5.size
   have zb0 := bb.size
   refine bodyPost_ret (Ak rfl _ _ (w.heap.size + 2) 28 #[.slice none 0 0, .slice none 0 0] (0, 0) _ rfl kf Tryz.underlying28 rfl (by kernel_rfl)) rfl ?_
   exact ⟨_, _, rfl, ⟨[], by simpa using World.ownsRow_nil _ _ _ _, by simp, by simp⟩, RowQ.nil _ _ _ _ _ _, u5.below bb (by omega)⟩
  | true =>
   rw [if_pos ⟨hz, hrk⟩] at hres
   have HRES := UC hres
   clear hres
   have HOK := UC (Ev hz)
   have h60 := (Bs hz).2.2
   have hoo := (of_decide_eq_true hz).1
   have HSO := UC (C8 hoo)
   have HZS := UC (fun i (hi : i < rs.length) => K6 (Ev hz i hi))
   have AF := UC (fun (w : World) (vo vr vn vt vx vi : Value) (h : HasZ w vo vr o rs) (hx : HasR w vn vt vx vi r) => Wp h hx h60 (UB HOK) hrk)
   have hal := Lv (r := r) rs false
   have hDN := Of hz hrk
   generalize hD : addL r rs false = D at *
   have HDN := UC hDN
   clear hD hoo hDN
   go_enter Tryz.func16, Tryz.ntmps16
   go_wp2_with fail
   generalize ((w.alloc (.cells #[.slice oa o.length oc, .slice ra rs.length rc] 28)).alloc (.cells #[.slice na r.name.length nc, .int .i64 r.type, .int .i64 r.ttl, .int .i64 r.addr, .slice ta r.to.length tc, .slice xa r.text.length xc, .slice ia r.nums.length ic] 39)).alloc (.cells #[.slice none 0 0, .slice none 0 0] 28) = W at *
   refine (UB HO).mono ?_
   rintro e w1 ⟨rfl, b1⟩
   have HM := Gy ((UB HX).below b1)
   rw [hrk] at HM
   replace HM := UC HM
   obtain ⟨e0, e1, e2, e3, e4, e5, e6⟩ := UJ (UE b1 (UB KX))
   replace bb := UG bb b1
   replace HH := UC ((UB HH).below b1)
   replace HX := UC ((UB HX).below b1)
   replace KZ := UC (UE b1 (UB KZ))
   replace KX := UC (UE b1 (UB KX))
   replace KR := UC (UE b1 (UB KR))
   have z1 := b1.size
   clear c0 c1 b1 HO
   go_wp2_with fail
   refine (UB HM).mono ?_
   rintro e w2 ⟨rfl, b2⟩
   replace bb := UG bb b2
   replace HH := UC ((UB HH).below b2)
   replace HX := UC ((UB HX).below b2)
   replace KZ := UC (UE b2 (UB KZ))
   replace KX := UC (UE b2 (UB KX))
   replace KR := UC (UE b2 (UB KR))
   have z2 := b2.size
   clear e0 e1 e2 e3 e4 e5 e6 b2 HM
   have DR := UC (UB AF _ _ _ _ _ _ _ (UB HH) (UB HX))
   obtain ⟨c0, c1⟩ := UM (UB KZ)
   obtain ⟨e0, e1, e2, e3, e4, e5, e6⟩ := UJ (UB KX)
   clear AF
   go_wp2_with fail
   refine (UB DR).mono ?_
   rintro e w3 ⟨v3, rfl, h3, b3⟩
   obtain ⟨va, vc, rfl, _⟩ := h3.recs.form
   clear c0 c1 e0 e1 e2 e3 e4 e5 e6 DR
   have b4 := UI (w := w3) (.cells #[.slice oa o.length oc, .slice va D.length vc] 28)
   have k4 := heap_alloc_new w3 (.cells #[.slice oa o.length oc, .slice va D.length vc] 28)
   have ZK := Ec (h3.below b4) (UB HDN)
   have HZD := UC (h3.below b4)
   have b34 := UG b3 b4
   replace bb := UG bb b34
   replace HH := UC ((UB HH).below b34)
   replace KR := UC (UE b34 (UB KR))
   replace KZ := UC (UE b34 (UB KZ))
   have KD := UC k4
   have z4 := b34.size
   obtain ⟨c0, c1⟩ := UM k4
   clear b3 b4 b34 h3 k4
   cases hzd : Ar o D with
   | true =>
    rw [hzd] at ZK
    replace ZK := UC ZK
    have hDS := Bs hzd
    have HDS := UC (fun i (hi : i < D.length) => K6 (Ev hzd i hi))
    go_wp2_with fail
    clear c0 c1
    generalize w3.alloc (.cells #[.slice oa o.length oc, .slice va D.length vc] 28) = w4 at *
    refine (UB ZK).mono ?_
    rintro e w4b ⟨rfl, b4b⟩
    have OW := UC (Kh ((UB HZD).below b4b) (UB HSO) (UB HDS) (by have := hDS.2.2; omega))
    replace bb := UG bb b4b
    replace KR := UC (UE b4b (UB KR))
    obtain ⟨c0, c1⟩ := UM (UE b4b (UB KD))
    have z4b := b4b.size
    clear b4b ZK hDS
    go_wp2_with fail
    clear c0 c1
    have zB := bb.size
    refine (UB OW).mono ?_
    rintro e w5 ⟨uo, ur, rfl, oN, oR, b5⟩
    obtain ⟨pa, pc, rfl, _⟩ := oN.hasL.form
    obtain ⟨ga, gc, rfl, _⟩ := oR.form
    have ON := UC oN
    have OR := UC oR
    have R5 := UC (UE b5 (UB KR))
    replace bb := UG bb b5
    have z5 := b5.size
    obtain ⟨d0, d1⟩ := UM (UB R5)
    obtain ⟨f0, f1⟩ := Am (UB R5)
    clear b5 oN oR OW KR
    go_wp2_with fail
    clear d0 d1 f0 f1
    have kf : ((w5.setCell ⟨w.heap.size + 2, 0, none⟩ (.slice pa o.length pc)).setCell ⟨w.heap.size + 2, 1, none⟩ (.slice ga D.length gc)).heap[w.heap.size + 2]? = some (.cells #[.slice pa o.length pc, .slice ga D.length gc] 28) := UV (UV (UB R5) 0 _) 1 _
    have u5 := (UT w5 (w.heap.size + 2) 0 (.slice pa o.length pc)).trans (UT _ (w.heap.size + 2) 1 (.slice ga D.length gc))
    refine bodyPost_ret (Ak rfl _ _ (w.heap.size + 2) 28 #[.slice pa o.length pc, .slice ga D.length gc] (0, 0) _ rfl kf Tryz.underlying28 rfl (by kernel_rfl)) rfl ?_
    have hr := UB HRES
    rw [if_pos hzd] at hr
    subst hr
    exact ⟨_, _, rfl, ((UB ON).offR (Ad (Ab w5 ⟨w.heap.size + 2, 0, none⟩ (.slice pa o.length pc)) (Ab _ ⟨w.heap.size + 2, 1, none⟩ (.slice ga D.length gc))) (fun q e => by cases e; exact ⟨_, _, UB R5, by decide, by decide⟩)).mono zB, ((UB OR).off (UB R5) (by decide) (by decide) (by decide) (by decide) (Ad (Ab w5 ⟨w.heap.size + 2, 0, none⟩ (.slice pa o.length pc)) (Ab _ ⟨w.heap.size + 2, 1, none⟩ (.slice ga D.length gc)))).mono zB, u5.below bb (by omega)⟩
   | false =>
    rw [hzd] at ZK
    replace ZK := UC ZK
    go_wp2_with fail
    clear c0 c1
    generalize w3.alloc (.cells #[.slice oa o.length oc, .slice va D.length vc] 28) = w4 at *
    refine (UB ZK).mono ?_
    rintro e w4b ⟨rfl, b4b⟩
    have OW := UC (Kh ((UB HH).below b4b) (UB HSO) (UB HZS) (by omega))
    replace bb := UG bb b4b
    replace KR := UC (UE b4b (UB KR))
    obtain ⟨c0, c1⟩ := UM (UE b4b (UB KZ))
    have z4b := b4b.size
    clear b4b ZK
    go_wp2_with fail
    clear c0 c1
    have zB := bb.size
    refine (UB OW).mono ?_
    rintro e w5 ⟨uo, ur, rfl, oN, oR, b5⟩
    obtain ⟨pa, pc, rfl, _⟩ := oN.hasL.form
    obtain ⟨ga, gc, rfl, _⟩ := oR.form
    have ON := UC oN
    have OR := UC oR
    have R5 := UC (UE b5 (UB KR))
    replace bb := UG bb b5
    have z5 := b5.size
    obtain ⟨d0, d1⟩ := UM (UB R5)
    obtain ⟨f0, f1⟩ := Am (UB R5)
    clear b5 oN oR OW KR
    go_wp2_with fail
    clear d0 d1 f0 f1
    have kf : ((w5.setCell ⟨w.heap.size + 2, 0, none⟩ (.slice pa o.length pc)).setCell ⟨w.heap.size + 2, 1, none⟩ (.slice ga rs.length gc)).heap[w.heap.size + 2]? = some (.cells #[.slice pa o.length pc, .slice ga rs.length gc] 28) := UV (UV (UB R5) 0 _) 1 _
    have u5 := (UT w5 (w.heap.size + 2) 0 (.slice pa o.length pc)).trans (UT _ (w.heap.size + 2) 1 (.slice ga rs.length gc))
    refine bodyPost_ret (Ak rfl _ _ (w.heap.size + 2) 28 #[.slice pa o.length pc, .slice ga rs.length gc] (0, 0) _ rfl kf Tryz.underlying28 rfl (by kernel_rfl)) rfl ?_
    have hr := UB HRES
    rw [if_neg (by rw [hzd]; exact Bool.false_ne_true)] at hr
    subst hr
    exact ⟨_, _, rfl, ((UB ON).offR (Ad (Ab w5 ⟨w.heap.size + 2, 0, none⟩ (.slice pa o.length pc)) (Ab _ ⟨w.heap.size + 2, 1, none⟩ (.slice ga rs.length gc))) (fun q e => by cases e; exact ⟨_, _, UB R5, by decide, by decide⟩)).mono zB, ((UB OR).off (UB R5) (by decide) (by decide) (by decide) (by decide) (Ad (Ab w5 ⟨w.heap.size + 2, 0, none⟩ (.slice pa o.length pc)) (Ab _ ⟨w.heap.size + 2, 1, none⟩ (.slice ga rs.length gc)))).mono zB, u5.below bb (by omega)⟩
theorem Uy {W : World} {oa : Option Addr} {oc g q : Nat} {o : List (List Int)} {s : Int} {t ti : TypeId} (ho : HasL W (.slice oa o.length oc) o)
  (hg : W.heap[g]? = some (.cells #[.slice oa o.length oc, .int .i64 6, .int .i64 60, .int .i64 0, .slice oa o.length oc, .slice none 0 0, .slice (some ⟨q, 0, none⟩) 2 2] t)) (hq : W.heap[q]? = some (.cells #[.int .i64 s, .int .i64 60] ti)) :
  HasZ W (.slice oa o.length oc) (.slice (some ⟨g, 0, none⟩) 1 1) o [Fx o s] := by
 refine ⟨ho, .inr ⟨g, 0, 1, rfl, VC hg, Nat.le_refl _, by decide, fun i hi => ?_⟩⟩
 obtain rfl : i = 0 := by simpa using hi
 refine ⟨.slice oa o.length oc, .slice oa o.length oc, .slice none 0 0, .slice (some ⟨q, 0, none⟩) 2 2, fun j u hj => ?_, ⟨ho, ho, .inl ⟨rfl, rfl⟩, .inr ⟨q, 0, 2, rfl, VC hq, Nat.le_refl _, by decide, fun i hi => ?_⟩⟩⟩
 ·rw [VE hg]
  simpa [Ah, Fx] using hj
 ·rw [VE hq, Nat.zero_add]
  match i, hi with
  | 0, _ => rfl
  | 1, _ => rfl
theorem Wo (B E : Nat) (el eb : TypeId) (w : World) : OwnN B E el eb w (.slice none 0 0) [] := ⟨[], World.ownsRow_nil _ _ _ _, (fun i hi => absurd hi (by simp)), by simp, (fun q hq => by cases hq), by simp⟩

set_option maxHeartbeats 4000000 in
set_option maxRecDepth 100000 in
theorem Om {vo : Value} {o : List (List Int)} {s : Int} {w : World} (h : HasL w vo o) (hs : o.length ≤ 1048576) :
  Calls Tryz.prog 57 #[.agg #[vo], .int .i64 s] w fun e w' => ∃ uo ur, e = .returned (.tuple #[.agg #[uo, ur], .bool (Cb o s).2]) ∧ (OwnL w.heap.size 22 5 w' uo (Cb o s).1.1 ∧ RowQ w.heap.size 39 22 5 3 w' ur (Cb o s).1.2) ∧ Below w.heap.size w w' := by
 obtain ⟨oa, oc, rfl, _⟩ := h.form
 have k1 : (((((w.alloc (.cells #[.slice oa o.length oc] 25)).alloc (.cells #[.slice none 0 0, .slice none 0 0] 28)).alloc (.cells #[.int .i64 s, .int .i64 60] 3)).alloc (.cells #[.slice oa o.length oc, .int .i64 6, .int .i64 60, .int .i64 0, .slice oa o.length oc, .slice none 0 0, .slice (some ⟨w.heap.size + 1 + 1, 0, none⟩) 2 2] 39)).alloc (.cells #[.slice oa o.length oc, .slice (some ⟨w.heap.size + 1 + 1 + 1, 0, none⟩) 1 1] 28)).heap[w.heap.size + 1]? = some (.cells #[.slice none 0 0, .slice none 0 0] 28) := by
   have := UE (UI (w := ((((w.alloc (.cells #[.slice oa o.length oc] 25)).alloc (.cells #[.slice none 0 0, .slice none 0 0] 28)).alloc (.cells #[.int .i64 s, .int .i64 60] 3)).alloc (.cells #[.slice oa o.length oc, .int .i64 6, .int .i64 60, .int .i64 0, .slice oa o.length oc, .slice none 0 0, .slice (some ⟨w.heap.size + 1 + 1, 0, none⟩) 2 2] 39))) (.cells #[.slice oa o.length oc, .slice (some ⟨w.heap.size + 1 + 1 + 1, 0, none⟩) 1 1] 28)) (UE (UI (w := (((w.alloc (.cells #[.slice oa o.length oc] 25)).alloc (.cells #[.slice none 0 0, .slice none 0 0] 28)).alloc (.cells #[.int .i64 s, .int .i64 60] 3))) (.cells #[.slice oa o.length oc, .int .i64 6, .int .i64 60, .int .i64 0, .slice oa o.length oc, .slice none 0 0, .slice (some ⟨w.heap.size + 1 + 1, 0, none⟩) 2 2] 39)) (UE (UI (w := ((w.alloc (.cells #[.slice oa o.length oc] 25)).alloc (.cells #[.slice none 0 0, .slice none 0 0] 28))) (.cells #[.int .i64 s, .int .i64 60] 3)) (heap_alloc_new (w.alloc (.cells #[.slice oa o.length oc] 25)) (.cells #[.slice none 0 0, .slice none 0 0] 28))))
   simpa using this
 have k2 : (((((w.alloc (.cells #[.slice oa o.length oc] 25)).alloc (.cells #[.slice none 0 0, .slice none 0 0] 28)).alloc (.cells #[.int .i64 s, .int .i64 60] 3)).alloc (.cells #[.slice oa o.length oc, .int .i64 6, .int .i64 60, .int .i64 0, .slice oa o.length oc, .slice none 0 0, .slice (some ⟨w.heap.size + 1 + 1, 0, none⟩) 2 2] 39)).alloc (.cells #[.slice oa o.length oc, .slice (some ⟨w.heap.size + 1 + 1 + 1, 0, none⟩) 1 1] 28)).heap[w.heap.size + 1 + 1]? = some (.cells #[.int .i64 s, .int .i64 60] 3) := by
   have := UE (UI (w := ((((w.alloc (.cells #[.slice oa o.length oc] 25)).alloc (.cells #[.slice none 0 0, .slice none 0 0] 28)).alloc (.cells #[.int .i64 s, .int .i64 60] 3)).alloc (.cells #[.slice oa o.length oc, .int .i64 6, .int .i64 60, .int .i64 0, .slice oa o.length oc, .slice none 0 0, .slice (some ⟨w.heap.size + 1 + 1, 0, none⟩) 2 2] 39))) (.cells #[.slice oa o.length oc, .slice (some ⟨w.heap.size + 1 + 1 + 1, 0, none⟩) 1 1] 28)) (UE (UI (w := (((w.alloc (.cells #[.slice oa o.length oc] 25)).alloc (.cells #[.slice none 0 0, .slice none 0 0] 28)).alloc (.cells #[.int .i64 s, .int .i64 60] 3))) (.cells #[.slice oa o.length oc, .int .i64 6, .int .i64 60, .int .i64 0, .slice oa o.length oc, .slice none 0 0, .slice (some ⟨w.heap.size + 1 + 1, 0, none⟩) 2 2] 39)) (heap_alloc_new ((w.alloc (.cells #[.slice oa o.length oc] 25)).alloc (.cells #[.slice none 0 0, .slice none 0 0] 28)) (.cells #[.int .i64 s, .int .i64 60] 3)))
   simpa using this
 have k3 : (((((w.alloc (.cells #[.slice oa o.length oc] 25)).alloc (.cells #[.slice none 0 0, .slice none 0 0] 28)).alloc (.cells #[.int .i64 s, .int .i64 60] 3)).alloc (.cells #[.slice oa o.length oc, .int .i64 6, .int .i64 60, .int .i64 0, .slice oa o.length oc, .slice none 0 0, .slice (some ⟨w.heap.size + 1 + 1, 0, none⟩) 2 2] 39)).alloc (.cells #[.slice oa o.length oc, .slice (some ⟨w.heap.size + 1 + 1 + 1, 0, none⟩) 1 1] 28)).heap[w.heap.size + 1 + 1 + 1]? = some (.cells #[.slice oa o.length oc, .int .i64 6, .int .i64 60, .int .i64 0, .slice oa o.length oc, .slice none 0 0, .slice (some ⟨w.heap.size + 1 + 1, 0, none⟩) 2 2] 39) := by
   have := UE (UI (w := ((((w.alloc (.cells #[.slice oa o.length oc] 25)).alloc (.cells #[.slice none 0 0, .slice none 0 0] 28)).alloc (.cells #[.int .i64 s, .int .i64 60] 3)).alloc (.cells #[.slice oa o.length oc, .int .i64 6, .int .i64 60, .int .i64 0, .slice oa o.length oc, .slice none 0 0, .slice (some ⟨w.heap.size + 1 + 1, 0, none⟩) 2 2] 39))) (.cells #[.slice oa o.length oc, .slice (some ⟨w.heap.size + 1 + 1 + 1, 0, none⟩) 1 1] 28)) (heap_alloc_new (((w.alloc (.cells #[.slice oa o.length oc] 25)).alloc (.cells #[.slice none 0 0, .slice none 0 0] 28)).alloc (.cells #[.int .i64 s, .int .i64 60] 3)) (.cells #[.slice oa o.length oc, .int .i64 6, .int .i64 60, .int .i64 0, .slice oa o.length oc, .slice none 0 0, .slice (some ⟨w.heap.size + 1 + 1, 0, none⟩) 2 2] 39))
   simpa using this
 have k4 : (((((w.alloc (.cells #[.slice oa o.length oc] 25)).alloc (.cells #[.slice none 0 0, .slice none 0 0] 28)).alloc (.cells #[.int .i64 s, .int .i64 60] 3)).alloc (.cells #[.slice oa o.length oc, .int .i64 6, .int .i64 60, .int .i64 0, .slice oa o.length oc, .slice none 0 0, .slice (some ⟨w.heap.size + 1 + 1, 0, none⟩) 2 2] 39)).alloc (.cells #[.slice oa o.length oc, .slice (some ⟨w.heap.size + 1 + 1 + 1, 0, none⟩) 1 1] 28)).heap[w.heap.size + 1 + 1 + 1 + 1]? = some (.cells #[.slice oa o.length oc, .slice (some ⟨w.heap.size + 1 + 1 + 1, 0, none⟩) 1 1] 28) := by
   have := heap_alloc_new ((((w.alloc (.cells #[.slice oa o.length oc] 25)).alloc (.cells #[.slice none 0 0, .slice none 0 0] 28)).alloc (.cells #[.int .i64 s, .int .i64 60] 3)).alloc (.cells #[.slice oa o.length oc, .int .i64 6, .int .i64 60, .int .i64 0, .slice oa o.length oc, .slice none 0 0, .slice (some ⟨w.heap.size + 1 + 1, 0, none⟩) 2 2] 39)) (.cells #[.slice oa o.length oc, .slice (some ⟨w.heap.size + 1 + 1 + 1, 0, none⟩) 1 1] 28)
   simpa using this
 have b0 : Below w.heap.size w (((((w.alloc (.cells #[.slice oa o.length oc] 25)).alloc (.cells #[.slice none 0 0, .slice none 0 0] 28)).alloc (.cells #[.int .i64 s, .int .i64 60] 3)).alloc (.cells #[.slice oa o.length oc, .int .i64 6, .int .i64 60, .int .i64 0, .slice oa o.length oc, .slice none 0 0, .slice (some ⟨w.heap.size + 1 + 1, 0, none⟩) 2 2] 39)).alloc (.cells #[.slice oa o.length oc, .slice (some ⟨w.heap.size + 1 + 1 + 1, 0, none⟩) 1 1] 28)) := (((((Below.refl _ w).alloc (by simp) (.cells #[.slice oa o.length oc] 25)).alloc (by simp) (.cells #[.slice none 0 0, .slice none 0 0] 28)).alloc (by simp; omega) (.cells #[.int .i64 s, .int .i64 60] 3)).alloc (by simp; omega) (.cells #[.slice oa o.length oc, .int .i64 6, .int .i64 60, .int .i64 0, .slice oa o.length oc, .slice none 0 0, .slice (some ⟨w.heap.size + 1 + 1, 0, none⟩) 2 2] 39)).alloc (by simp; omega) (.cells #[.slice oa o.length oc, .slice (some ⟨w.heap.size + 1 + 1 + 1, 0, none⟩) 1 1] 28)
 have ez : (((((w.alloc (.cells #[.slice oa o.length oc] 25)).alloc (.cells #[.slice none 0 0, .slice none 0 0] 28)).alloc (.cells #[.int .i64 s, .int .i64 60] 3)).alloc (.cells #[.slice oa o.length oc, .int .i64 6, .int .i64 60, .int .i64 0, .slice oa o.length oc, .slice none 0 0, .slice (some ⟨w.heap.size + 1 + 1, 0, none⟩) 2 2] 39)).alloc (.cells #[.slice oa o.length oc, .slice (some ⟨w.heap.size + 1 + 1 + 1, 0, none⟩) 1 1] 28)).heap.size = w.heap.size + 1 + 1 + 1 + 1 + 1 := by simp
 have HZ := UC (Uy (h.below b0) k3 k2)
 have K1 := UC k1
 have K9 := UC k4
 have zz : w.heap.size + 5 ≤ (((((w.alloc (.cells #[.slice oa o.length oc] 25)).alloc (.cells #[.slice none 0 0, .slice none 0 0] 28)).alloc (.cells #[.int .i64 s, .int .i64 60] 3)).alloc (.cells #[.slice oa o.length oc, .int .i64 6, .int .i64 60, .int .i64 0, .slice oa o.length oc, .slice none 0 0, .slice (some ⟨w.heap.size + 1 + 1, 0, none⟩) 2 2] 39)).alloc (.cells #[.slice oa o.length oc, .slice (some ⟨w.heap.size + 1 + 1 + 1, 0, none⟩) 1 1] 28)).heap.size := by omega
 clear k1 k2 k3 k4 h ez
 generalize hRes : Cb o s = Res
 have HQ0 := UC hRes
 clear hRes
 go_enter Tryz.func57, Tryz.ntmps57
 go_wp2_with fail
 generalize (((((w.alloc (.cells #[.slice oa o.length oc] 25)).alloc (.cells #[.slice none 0 0, .slice none 0 0] 28)).alloc (.cells #[.int .i64 s, .int .i64 60] 3)).alloc (.cells #[.slice oa o.length oc, .int .i64 6, .int .i64 60, .int .i64 0, .slice oa o.length oc, .slice none 0 0, .slice (some ⟨w.heap.size + 1 + 1, 0, none⟩) 2 2] 39)).alloc (.cells #[.slice oa o.length oc, .slice (some ⟨w.heap.size + 1 + 1 + 1, 0, none⟩) 1 1] 28)) = W at *
 refine (Ec (UB HZ) (fun k hk => by simp at hk; subst hk; exact hs)).mono ?_
 rintro e w1 ⟨rfl, b1⟩
 have bb := UG b0 b1
 have r1 := UE b1 (UB K1)
 have K2 := UC (UE b1 (UB K9))
 have H1 := UC ((UB HZ).below b1)
 have z1 := b1.size
 clear b0 b1 HZ K1 K9
 have hRes := UB HQ0
 unfold Cb at hRes
 clear HQ0
 cases hok : Ar o [Fx o s] with
 | false =>
  rw [hok, if_neg (by simp)] at hRes
  subst hRes
  obtain ⟨d0, d1⟩ := UM r1
  obtain ⟨f0, f1⟩ := Am r1
  have R1 := UC r1
  clear r1 hok
  go_wp2_with fail
  clear d0 d1 f0 f1
  have kf : ((w1.setCell ⟨w.heap.size + 1, 0, none⟩ (.slice none 0 0)).setCell ⟨w.heap.size + 1, 1, none⟩ (.slice none 0 0)).heap[w.heap.size + 1]? = some (.cells #[.slice none 0 0, .slice none 0 0] 28) := UV (UV (UB R1) 0 _) 1 _
  have u5 := (UT w1 (w.heap.size + 1) 0 (.slice none 0 0)).trans (UT _ (w.heap.size + 1) 1 (.slice none 0 0))
  have z5 := u5.size
  refine bodyPost_ret (Ak rfl _ _ (w.heap.size + 1) 28 #[.slice none 0 0, .slice none 0 0] (0, 0) _ rfl kf Tryz.underlying28 rfl (by kernel_rfl)) rfl ?_
  exact ⟨_, _, rfl, ⟨(Wo _ 0 _ _ _).ownL, RowQ.nil _ _ _ _ _ _⟩, u5.below bb (by omega)⟩
 | true =>
  rw [hok, if_pos rfl] at hRes
  subst hRes
  have HC := UC (Kh (UB H1) (Bs hok).1 (Bs hok).2.1 (Nat.le_trans (Bs hok).2.2 (by decide)))
  have R1 := UC r1
  obtain ⟨c0, c1⟩ := UM (UB K2)
  clear r1 hok
  go_wp2_with fail
  clear c0 c1
  refine (UB HC).mono ?_
  rintro e w2 ⟨uo, ur, rfl, oN, oR, b2⟩
  obtain ⟨pa, pc, rfl, _⟩ := oN.hasL.form
  obtain ⟨qa, qc, rfl, _⟩ := oR.form
  have ON := UC oN
  have OR := UC oR
  have R2 := UC (UE b2 (UB R1))
  replace bb := UG bb b2
  have z2 := b2.size
  obtain ⟨d0, d1⟩ := UM (UB R2)
  obtain ⟨f0, f1⟩ := Am (UB R2)
  clear b2 oN oR HC R1 K2
  go_wp2_with fail
  clear d0 d1 f0 f1
  have kf : ((w2.setCell ⟨w.heap.size + 1, 0, none⟩ (.slice pa o.length pc)).setCell ⟨w.heap.size + 1, 1, none⟩ (.slice qa 1 qc)).heap[w.heap.size + 1]? = some (.cells #[.slice pa o.length pc, .slice qa 1 qc] 28) := UV (UV (UB R2) 0 _) 1 _
  have u5 := (UT w2 (w.heap.size + 1) 0 (.slice pa o.length pc)).trans (UT _ (w.heap.size + 1) 1 (.slice qa 1 qc))
  have z5 := u5.size
  refine bodyPost_ret (Ak rfl _ _ (w.heap.size + 1) 28 #[.slice pa o.length pc, .slice qa 1 qc] (0, 0) _ rfl kf Tryz.underlying28 rfl (by kernel_rfl)) rfl ?_
  exact ⟨_, _, rfl, ⟨(((UB ON).here.outside u5 (.inr (by omega))).ownL).mono (by omega), ((UB OR).off (UB R2) (by decide) (by decide) (by decide) (by decide) (Ad (Ab w2 ⟨w.heap.size + 1, 0, none⟩ (.slice pa o.length pc)) (Ab _ ⟨w.heap.size + 1, 1, none⟩ (.slice qa 1 qc)))).mono (by omega)⟩, u5.below bb (by omega)⟩
end Go.Proofs.YtfneahdnpmamkaaGreat
