/-
  Contracts of the specification's l4rrs and l4wants. Contract of the specification's l4may.
-/
import Derived.Test.YtbabmdiklefgcaaGreatDoorFnRepliesG40
import Derived.Test.YtbabmdiklefgcaaGreatDoorFnRepliesG06
import Derived.Test.YtbabmdiklefgcaaGreatDoorFnRepliesG41
namespace Go.Proofs.YtbabmdiklefgcaaGreatDoor
open Go.RowKit
set_option linter.unusedVariables false

set_option maxHeartbeats 1000000 in
set_option maxRecDepth 100000 in
theorem l4wants_has {v : Value} {l : List Wnt} {w : World} (h : HasWs w v l) :
  Calls Tryz.prog 37 #[v] w fun e w' => e = .returned (.bool (wntsOk l)) ∧ Below w.heap.size w w' := by
 obtain ⟨a, cap, rfl, hl, hm⟩ := h.form
 unfold wntsOk maxLen at *
 have HA := UC (all_of (p := wntOk) l wntZ)
 have HB := UC (fun k (hk : k < l.length) (hp : wntOk (l.getD k wntZ) = false) => all_not (p := wntOk) l wntZ hk hp)
 by_cases h12 : l.length ≤ 12
 ·rw [decide_eq_true h12, Bool.true_and]
  generalize l.all wntOk = R at *
  generalize hn : l.length = m at *
  have HN := UC hn
  have H := UC h
  clear hn h
  go_enter Tryz.func37, Tryz.ntmps37
  go_wp2
  go_loopw [3] (fun i wr => ∃ k : Nat, k ≤ m ∧ i = .int .i64 k ∧ Hid (∀ j, j < k → wntOk (l.getD j wntZ) = true) ∧ Below w.heap.size w wr) (fun i _ => m - (intOf i).toNat)
  case atStart => exact ⟨0, Nat.zero_le _, rfl, UC (fun j hj => absurd hj (Nat.not_lt_zero _)), Below.refl _ _⟩
  case round =>
   obtain ⟨k, hk, rfl, hall, hb⟩ := hrel
   by_cases hlt : k < m
   ·obtain ⟨b, off, vs, rfl, hbl, hc, vn, vt, vx, vi, rfl, hu⟩ := (keptWs (UB H) hb).here (k := k) (by rw [UB HN]; exact hlt)
    have hbk := UB HB k hlt
    have HBK := UC hbk
    have hone := UC (fun (hs : wntOk (l.getD k wntZ) = true) => (show ∀ j, j < k + 1 → wntOk (l.getD j wntZ) = true from fun j hj => by
      by_cases e : j = k
      ·subst e; exact hs
      ·exact UB hall j (by omega)))
    clear hbk
    generalize l.getD k wntZ = rk at *
    obtain ⟨na, nc, rfl, _⟩ := hu.name.form
    obtain ⟨ta, tc, rfl, _⟩ := hu.to.form
    obtain ⟨xa, xc, rfl, _⟩ := hu.text.form
    obtain ⟨ia, ic, rfl, _⟩ := hu.nums.form
    have HC := UC (specWantOk_has rk.cls rk.bare hu)
    obtain ⟨c0, c1, c2, c3, c4, c5, c6, c7, c8⟩ := range9 hc
    clear hc hu
    cases hp : wntOk rk with
    | true =>
     have HC' := UB HC
     rw [show wantOk rk.rr rk.cls rk.bare = true from hp] at HC'
     replace HC := UC HC'
     clear HC'
     go_wp2_with fail
     refine (UB HC).mono ?_
     rintro e w1 ⟨rfl, b1⟩
     clear c0 c1 c2 c3 c4 c5 c6 c7 c8
     have b2 := UG hb b1
     clear b1
     go_wp2_with fail
     exact ⟨⟨k + 1, by omega, by go_num, UC (UB hone hp), b2⟩, by simp [intOf]; omega⟩
    | false =>
     have HC' := UB HC
     rw [show wantOk rk.rr rk.cls rk.bare = false from hp] at HC'
     replace HC := UC HC'
     clear HC'
     have hR := UB HBK hp
     subst hR
     go_wp2_with fail
     refine (UB HC).mono ?_
     rintro e w1 ⟨rfl, b1⟩
     clear c0 c1 c2 c3 c4 c5 c6 c7 c8
     have b2 := UG hb b1
     clear b1
     go_wp2_with fail
     go_ret
     exact ⟨rfl, b2⟩
   ·obtain rfl : k = m := by omega
    have hR := UB HA (UB hall)
    subst hR
    go_wp2
    go_ret
    exact ⟨rfl, hb⟩
 ·rw [decide_eq_false h12, Bool.false_and]
  clear HA HB h
  generalize l.length = m at *
  go_enter Tryz.func37, Tryz.ntmps37
  go_wp2
  go_ret
  exact ⟨rfl, Below.refl _ _⟩
set_option maxHeartbeats 4000000
set_option maxRecDepth 100000

theorem l4may_num {vq va vb vm vp vu : Value} {m : Mg} {w : World} (h : HasM w vq va vb vm vp vu m) (hbad : m.id < 0 ∨ 65535 < m.id ∨ (m.op ≠ 0 ∧ m.op ≠ 5)) :
  Calls Tryz.prog 17 #[.agg #[.int .i64 m.id, .bool m.reply, .int .i64 m.op, .bool m.auth, .int .i64 m.code, vq, va, vb, vm, vp, vu]] w fun e w' => e = .returned (.bool (mayM m)) ∧ Below w.heap.size w w' := by
 obtain ⟨xq, yq, rfl, _, zq⟩ := h.qs.form
 obtain ⟨xa, ya, rfl, _, za⟩ := h.ans.form
 obtain ⟨xb, yb, rfl, _, zb⟩ := h.aus.form
 obtain ⟨xm, ym, rfl, _, zm⟩ := h.more.form
 obtain ⟨xp, yp, rfl, _, zp⟩ := h.pres.form
 obtain ⟨xu, yu, rfl, _, zu⟩ := h.ups.form
 have b0 := UI (w := w) (.cells #[.int .i64 m.id, .bool m.reply, .int .i64 m.op, .bool m.auth, .int .i64 m.code, .slice xq m.qs.length yq, .slice xa m.ans.length ya, .slice xb m.aus.length yb, .slice xm m.more.length ym, .slice xp m.pres.length yp, .slice xu m.ups.length yu] 27)
 have KK := UC (heap_alloc_new w (.cells #[.int .i64 m.id, .bool m.reply, .int .i64 m.op, .bool m.auth, .int .i64 m.code, .slice xq m.qs.length yq, .slice xa m.ans.length ya, .slice xb m.aus.length yb, .slice xm m.more.length ym, .slice xp m.pres.length yp, .slice xu m.ups.length yu] 27))
 have HR := UC (show mayM m = (decide (0 ≤ m.id ∧ m.id ≤ 65535) && (decide (0 ≤ m.code ∧ m.code ≤ 10) && ((decide (m.qs.length = 1) && (nameOk (que1 m).name && asked (que1 m).type)) && (opOk m && (rrsOk m.ans && (rrsOk m.aus && (rrsOk m.more && (wntsOk m.pres && wntsOk m.ups)))))))) from rfl)
 have HOP := UC (show opOk m = (if m.op = 0 then (decide (m.pres.length = 0) && decide (m.ups.length = 0)) else if m.op = 5 then (decide ((que1 m).type = 6) && (decide (m.ans.length = 0) && (decide (m.aus.length = 0) && decide (m.more.length = 0)))) else false) from rfl)
 generalize mayM m = R at *
 generalize opOk m = OPK at *
 clear h
 obtain ⟨d0, d1, d2, d3, d4, d5, d6, d7, d8, d9, d10⟩ := cells11 (UB KK)
 by_cases i0 : m.id < 0
 ·have hR : R = false := by have := UB HR; rw [this]; rw [decide_eq_false (by omega), Bool.false_and]
  subst hR
  clear HR HOP
  clear hbad
  go_enter Tryz.func17, Tryz.ntmps17
  go_wp2_with fail
  go_ret
  exact ⟨rfl, b0⟩
 by_cases i1 : 65535 < m.id
 ·have hR : R = false := by have := UB HR; rw [this]; rw [decide_eq_false (by omega), Bool.false_and]
  subst hR
  clear HR HOP
  clear hbad
  go_enter Tryz.func17, Tryz.ntmps17
  go_wp2_with fail
  go_ret
  exact ⟨rfl, b0⟩
 have hop : m.op ≠ 0 ∧ m.op ≠ 5 := by omega
 have hR : R = false := by have := UB HR; rw [this, UB HOP, if_neg hop.1, if_neg hop.2]; simp
 have o0 : (m.op != 0) = true := by rw [bne_iff_ne]; exact hop.1
 have o5 : (m.op != 5) = true := by rw [bne_iff_ne]; exact hop.2
 subst hR
 clear HR HOP hop hbad
 go_enter Tryz.func17, Tryz.ntmps17
 go_wp2_with fail
 go_ret
 exact ⟨rfl, b0⟩

theorem l4may_q {vq va vb vm vp vu : Value} {m : Mg} {w : World} (h : HasM w vq va vb vm vp vu m) (hid0 : ¬ m.id < 0) (hid1 : ¬ 65535 < m.id) (hop : m.op = 0) :
  Calls Tryz.prog 17 #[.agg #[.int .i64 m.id, .bool m.reply, .int .i64 m.op, .bool m.auth, .int .i64 m.code, vq, va, vb, vm, vp, vu]] w fun e w' => e = .returned (.bool (mayM m)) ∧ Below w.heap.size w w' := by
 obtain ⟨xq, yq, rfl, _, zq⟩ := h.qs.form
 obtain ⟨xa, ya, rfl, _, za⟩ := h.ans.form
 obtain ⟨xb, yb, rfl, _, zb⟩ := h.aus.form
 obtain ⟨xm, ym, rfl, _, zm⟩ := h.more.form
 obtain ⟨xp, yp, rfl, _, zp⟩ := h.pres.form
 obtain ⟨xu, yu, rfl, _, zu⟩ := h.ups.form
 have b0 := UI (w := w) (.cells #[.int .i64 m.id, .bool m.reply, .int .i64 m.op, .bool m.auth, .int .i64 m.code, .slice xq m.qs.length yq, .slice xa m.ans.length ya, .slice xb m.aus.length yb, .slice xm m.more.length ym, .slice xp m.pres.length yp, .slice xu m.ups.length yu] 27)
 have KK := UC (heap_alloc_new w (.cells #[.int .i64 m.id, .bool m.reply, .int .i64 m.op, .bool m.auth, .int .i64 m.code, .slice xq m.qs.length yq, .slice xa m.ans.length ya, .slice xb m.aus.length yb, .slice xm m.more.length ym, .slice xp m.pres.length yp, .slice xu m.ups.length yu] 27))
 have HR := UC (show mayM m = (decide (0 ≤ m.id ∧ m.id ≤ 65535) && (decide (0 ≤ m.code ∧ m.code ≤ 10) && ((decide (m.qs.length = 1) && (nameOk (que1 m).name && asked (que1 m).type)) && (opOk m && (rrsOk m.ans && (rrsOk m.aus && (rrsOk m.more && (wntsOk m.pres && wntsOk m.ups)))))))) from rfl)
 have HOP := UC (show opOk m = (if m.op = 0 then (decide (m.pres.length = 0) && decide (m.ups.length = 0)) else if m.op = 5 then (decide ((que1 m).type = 6) && (decide (m.ans.length = 0) && (decide (m.aus.length = 0) && decide (m.more.length = 0)))) else false) from rfl)
 generalize mayM m = R at *
 generalize opOk m = OPK at *
 have o0 : (m.op != 0) = false := by rw [hop]; rfl
 have o5 : (m.op != 5) = true := by rw [hop]; rfl
 have oe : (m.op == 0) = true := by rw [hop]; rfl
 have HOP' := UB HOP
 rw [if_pos hop] at HOP'
 replace HOP := UC HOP'
 clear HOP' hop
 have H := UC (h.below b0)
 obtain ⟨d0, d1, d2, d3, d4, d5, d6, d7, d8, d9, d10⟩ := cells11 (UB KK)
 by_cases c0 : m.code < 0
 ·have hR : R = false := by have := UB HR; rw [this, decide_eq_false (by omega : ¬ (0 ≤ m.code ∧ m.code ≤ 10))]; simp
  subst hR
  clear HR HOP h
  go_enter Tryz.func17, Tryz.ntmps17
  go_wp2_with fail
  go_ret
  exact ⟨rfl, b0⟩
 by_cases c1 : 10 < m.code
 ·have hR : R = false := by have := UB HR; rw [this, decide_eq_false (by omega : ¬ (0 ≤ m.code ∧ m.code ≤ 10))]; simp
  subst hR
  clear HR HOP h
  go_enter Tryz.func17, Tryz.ntmps17
  go_wp2_with fail
  go_ret
  exact ⟨rfl, b0⟩
 by_cases q1 : m.qs.length ≠ 1
 ·have hR : R = false := by have := UB HR; rw [this, decide_eq_false q1]; simp
  subst hR
  have q2 : ((m.qs.length : Int) != 1) = true := by rw [bne_iff_ne]; omega
  clear HR HOP h q1
  go_enter Tryz.func17, Tryz.ntmps17
  go_wp2_with fail
  go_ret
  exact ⟨rfl, b0⟩
 have q1' : m.qs.length = 1 := by omega
 obtain ⟨qb, qoff, vs, rfl, hqbl, hqc, vn, rfl, hqu⟩ := h.qs.here (k := 0) (by omega)
 simp only [Nat.zero_mul, Nat.add_zero] at hqc
 have hque : m.qs.getD 0 queZ = que1 m := rfl
 rw [hque] at hqc hqu
 have hR' := UB HR
 rw [decide_eq_true (by omega : 0 ≤ m.id ∧ m.id ≤ 65535), decide_eq_true (by omega : 0 ≤ m.code ∧ m.code ≤ 10), decide_eq_true q1', Bool.true_and, Bool.true_and, Bool.true_and] at hR'
 replace HR := UC hR'
 have q2 : ((m.qs.length : Int) != 1) = false := by rw [bne_eq_false_iff_eq]; omega
 have q3 : 0 < m.qs.length := by omega
 clear hR' q1 q1' hque
 have CN := VO (hqu.below b0)
 have CA := fun (w : World) => l4asked_any (que1 m).type w
 have C1 := fun (w : World) (h : HasM w (.slice (some ⟨qb, qoff, none⟩) m.qs.length yq) (.slice xa m.ans.length ya) (.slice xb m.aus.length yb) (.slice xm m.more.length ym) (.slice xp m.pres.length yp) (.slice xu m.ups.length yu) m) => l4rrs_has h.ans
 have C2 := fun (w : World) (h : HasM w (.slice (some ⟨qb, qoff, none⟩) m.qs.length yq) (.slice xa m.ans.length ya) (.slice xb m.aus.length yb) (.slice xm m.more.length ym) (.slice xp m.pres.length yp) (.slice xu m.ups.length yu) m) => l4rrs_has h.aus
 have C3 := fun (w : World) (h : HasM w (.slice (some ⟨qb, qoff, none⟩) m.qs.length yq) (.slice xa m.ans.length ya) (.slice xb m.aus.length yb) (.slice xm m.more.length ym) (.slice xp m.pres.length yp) (.slice xu m.ups.length yu) m) => l4rrs_has h.more
 have C4 := fun (w : World) (h : HasM w (.slice (some ⟨qb, qoff, none⟩) m.qs.length yq) (.slice xa m.ans.length ya) (.slice xb m.aus.length yb) (.slice xm m.more.length ym) (.slice xp m.pres.length yp) (.slice xu m.ups.length yu) m) => l4wants_has h.pres
 have C5 := fun (w : World) (h : HasM w (.slice (some ⟨qb, qoff, none⟩) m.qs.length yq) (.slice xa m.ans.length ya) (.slice xb m.aus.length yb) (.slice xm m.more.length ym) (.slice xp m.pres.length yp) (.slice xu m.ups.length yu) m) => l4wants_has h.ups
 obtain ⟨qna, qnc, rfl, _⟩ := hqu.form
 have HQC := UC (UW hqc hqbl b0)
 have zz := b0.size
 obtain ⟨c_q0, c_q1⟩ := range2 (UB HQC)
 generalize nameOk (que1 m).name = GN at *
 generalize asked (que1 m).type = GA at *
 generalize (que1 m).type = T at *
 generalize (que1 m).name = NM at *
 generalize rrsOk m.ans = G1 at *
 generalize rrsOk m.aus = G2 at *
 generalize rrsOk m.more = G3 at *
 generalize wntsOk m.pres = G4 at *
 generalize wntsOk m.ups = G5 at *
 replace CN := UC CN
 replace CA := UC CA
 replace C1 := UC C1
 replace C2 := UC C2
 replace C3 := UC C3
 replace C4 := UC C4
 replace C5 := UC C5
 clear h hqc hqu
 go_enter Tryz.func17, Tryz.ntmps17
 go_wp2_with fail
 clear d0 d1 d2 d3 d4 d5 d6 d7 d8 d9 d10 c_q0 c_q1
 have hqblW : qb < (w.alloc (.cells #[.int .i64 m.id, .bool m.reply, .int .i64 m.op, .bool m.auth, .int .i64 m.code, .slice (some ⟨qb, qoff, none⟩) m.qs.length yq, .slice xa m.ans.length ya, .slice xb m.aus.length yb, .slice xm m.more.length ym, .slice xp m.pres.length yp, .slice xu m.ups.length yu] 27)).heap.size := Nat.lt_of_lt_of_le hqbl zz
 generalize w.alloc (.cells #[.int .i64 m.id, .bool m.reply, .int .i64 m.op, .bool m.auth, .int .i64 m.code, .slice (some ⟨qb, qoff, none⟩) m.qs.length yq, .slice xa m.ans.length ya, .slice xb m.aus.length yb, .slice xm m.more.length ym, .slice xp m.pres.length yp, .slice xu m.ups.length yu] 27) = W at *
 refine (UB CN).mono ?_
 rintro e w1 ⟨rfl, b1⟩
 replace b0 := UG b0 b1
 replace H := UC ((UB H).below b1)
 replace KK := UC (UE b1 (UB KK))
 replace HQC := UC (UW (UB HQC) hqblW b1)
 have hqbl1 := Nat.lt_of_lt_of_le hqblW b1.size
 clear b1 CN
 cases GN with
 | false =>
  have hR : R = false := by have := UB HR; rw [this]; simp
  subst hR
  go_wp2_with fail
  go_ret
  exact ⟨rfl, b0⟩
 | true =>
  obtain ⟨d0, d1, d2, d3, d4, d5, d6, d7, d8, d9, d10⟩ := cells11 (UB KK)
  obtain ⟨c_q0, c_q1⟩ := range2 (UB HQC)
  go_wp2_with fail
  clear d0 d1 d2 d3 d4 d5 d6 d7 d8 d9 d10 c_q0 c_q1
  refine (UB CA _).mono ?_
  rintro e w2 ⟨rfl, rfl⟩
  cases GA with
  | false =>
   have hR : R = false := by have := UB HR; rw [this]; simp
   subst hR
   go_wp2_with fail
   go_ret
   exact ⟨rfl, b0⟩
  | true =>
   obtain ⟨d0, d1, d2, d3, d4, d5, d6, d7, d8, d9, d10⟩ := cells11 (UB KK)
   go_wp2_with fail
   clear d0 d1 d2 d3 d4 d5 d6 d7 d8 d9 d10
   refine (UB C1 _ (UB H)).mono ?_
   rintro e v1 ⟨rfl, b1⟩
   replace b0 := UG b0 b1
   replace H := UC ((UB H).below b1)
   replace KK := UC (UE b1 (UB KK))
   replace HQC := UC (UW (UB HQC) hqbl1 b1)
   replace hqbl1 := Nat.lt_of_lt_of_le hqbl1 b1.size
   clear b1
   cases G1 with
   | false =>
    have hR : R = false := by have := UB HR; rw [this]; simp
    subst hR
    go_wp2_with fail
    go_ret
    exact ⟨rfl, b0⟩
   | true =>
    obtain ⟨d0, d1, d2, d3, d4, d5, d6, d7, d8, d9, d10⟩ := cells11 (UB KK)
    go_wp2_with fail
    clear d0 d1 d2 d3 d4 d5 d6 d7 d8 d9 d10
    refine (UB C2 _ (UB H)).mono ?_
    rintro e v2 ⟨rfl, b2⟩
    replace b0 := UG b0 b2
    replace H := UC ((UB H).below b2)
    replace KK := UC (UE b2 (UB KK))
    replace HQC := UC (UW (UB HQC) hqbl1 b2)
    replace hqbl1 := Nat.lt_of_lt_of_le hqbl1 b2.size
    clear b2
    cases G2 with
    | false =>
     have hR : R = false := by have := UB HR; rw [this]; simp
     subst hR
     go_wp2_with fail
     go_ret
     exact ⟨rfl, b0⟩
    | true =>
     obtain ⟨d0, d1, d2, d3, d4, d5, d6, d7, d8, d9, d10⟩ := cells11 (UB KK)
     go_wp2_with fail
     clear d0 d1 d2 d3 d4 d5 d6 d7 d8 d9 d10
     refine (UB C3 _ (UB H)).mono ?_
     rintro e v3 ⟨rfl, b3⟩
     replace b0 := UG b0 b3
     replace H := UC ((UB H).below b3)
     replace KK := UC (UE b3 (UB KK))
     replace HQC := UC (UW (UB HQC) hqbl1 b3)
     replace hqbl1 := Nat.lt_of_lt_of_le hqbl1 b3.size
     clear b3
     cases G3 with
     | false =>
      have hR : R = false := by have := UB HR; rw [this]; simp
      subst hR
      go_wp2_with fail
      go_ret
      exact ⟨rfl, b0⟩
     | true =>
      obtain ⟨d0, d1, d2, d3, d4, d5, d6, d7, d8, d9, d10⟩ := cells11 (UB KK)
      go_wp2_with fail
      clear d0 d1 d2 d3 d4 d5 d6 d7 d8 d9 d10
      refine (UB C4 _ (UB H)).mono ?_
      rintro e v4 ⟨rfl, b4⟩
      replace b0 := UG b0 b4
      replace H := UC ((UB H).below b4)
      replace KK := UC (UE b4 (UB KK))
      replace HQC := UC (UW (UB HQC) hqbl1 b4)
      replace hqbl1 := Nat.lt_of_lt_of_le hqbl1 b4.size
      clear b4
      cases G4 with
      | false =>
       have hR : R = false := by have := UB HR; rw [this]; simp
       subst hR
       go_wp2_with fail
       go_ret
       exact ⟨rfl, b0⟩
      | true =>
       obtain ⟨d0, d1, d2, d3, d4, d5, d6, d7, d8, d9, d10⟩ := cells11 (UB KK)
       go_wp2_with fail
       clear d0 d1 d2 d3 d4 d5 d6 d7 d8 d9 d10
       refine (UB C5 _ (UB H)).mono ?_
       rintro e v5 ⟨rfl, b5⟩
       replace b0 := UG b0 b5
       replace H := UC ((UB H).below b5)
       replace KK := UC (UE b5 (UB KK))
       replace HQC := UC (UW (UB HQC) hqbl1 b5)
       replace hqbl1 := Nat.lt_of_lt_of_le hqbl1 b5.size
       clear b5
       cases G5 with
       | false =>
        have hR : R = false := by have := UB HR; rw [this]; simp
        subst hR
        go_wp2_with fail
        go_ret
        exact ⟨rfl, b0⟩
       | true =>
        have hR : R = OPK := by have := UB HR; rw [this]; simp
        subst hR
        clear HR C1 C2 C3 C4 C5 CA H
        have hO := UB HOP
        clear HOP
        generalize m.pres.length = n_pres at *
        generalize m.ups.length = n_ups at *
        by_cases e_pres : n_pres = 0
        ·rw [decide_eq_true e_pres, Bool.true_and] at hO
         subst e_pres
         by_cases e_ups : n_ups = 0
         ·rw [decide_eq_true e_ups] at hO
          subst e_ups
          subst hO
          obtain ⟨d0, d1, d2, d3, d4, d5, d6, d7, d8, d9, d10⟩ := cells11 (UB KK)
          obtain ⟨c_q0, c_q1⟩ := range2 (UB HQC)
          go_wp2_with fail
          go_ret
          exact ⟨rfl, b0⟩
         ·rw [decide_eq_false e_ups] at hO
          have q_ups : ((n_ups : Int) == 0) = false := by rw [beq_eq_false_iff_ne]; omega
          clear e_ups
          subst hO
          obtain ⟨d0, d1, d2, d3, d4, d5, d6, d7, d8, d9, d10⟩ := cells11 (UB KK)
          obtain ⟨c_q0, c_q1⟩ := range2 (UB HQC)
          go_wp2_with fail
          go_ret
          exact ⟨rfl, b0⟩
        ·rw [decide_eq_false e_pres, Bool.false_and] at hO
         have q_pres : ((n_pres : Int) == 0) = false := by rw [beq_eq_false_iff_ne]; omega
         clear e_pres
         subst hO
         obtain ⟨d0, d1, d2, d3, d4, d5, d6, d7, d8, d9, d10⟩ := cells11 (UB KK)
         obtain ⟨c_q0, c_q1⟩ := range2 (UB HQC)
         go_wp2_with fail
         go_ret
         exact ⟨rfl, b0⟩

theorem l4may_u {vq va vb vm vp vu : Value} {m : Mg} {w : World} (h : HasM w vq va vb vm vp vu m) (hid0 : ¬ m.id < 0) (hid1 : ¬ 65535 < m.id) (hop : m.op = 5) :
  Calls Tryz.prog 17 #[.agg #[.int .i64 m.id, .bool m.reply, .int .i64 m.op, .bool m.auth, .int .i64 m.code, vq, va, vb, vm, vp, vu]] w fun e w' => e = .returned (.bool (mayM m)) ∧ Below w.heap.size w w' := by
 obtain ⟨xq, yq, rfl, _, zq⟩ := h.qs.form
 obtain ⟨xa, ya, rfl, _, za⟩ := h.ans.form
 obtain ⟨xb, yb, rfl, _, zb⟩ := h.aus.form
 obtain ⟨xm, ym, rfl, _, zm⟩ := h.more.form
 obtain ⟨xp, yp, rfl, _, zp⟩ := h.pres.form
 obtain ⟨xu, yu, rfl, _, zu⟩ := h.ups.form
 have b0 := UI (w := w) (.cells #[.int .i64 m.id, .bool m.reply, .int .i64 m.op, .bool m.auth, .int .i64 m.code, .slice xq m.qs.length yq, .slice xa m.ans.length ya, .slice xb m.aus.length yb, .slice xm m.more.length ym, .slice xp m.pres.length yp, .slice xu m.ups.length yu] 27)
 have KK := UC (heap_alloc_new w (.cells #[.int .i64 m.id, .bool m.reply, .int .i64 m.op, .bool m.auth, .int .i64 m.code, .slice xq m.qs.length yq, .slice xa m.ans.length ya, .slice xb m.aus.length yb, .slice xm m.more.length ym, .slice xp m.pres.length yp, .slice xu m.ups.length yu] 27))
 have HR := UC (show mayM m = (decide (0 ≤ m.id ∧ m.id ≤ 65535) && (decide (0 ≤ m.code ∧ m.code ≤ 10) && ((decide (m.qs.length = 1) && (nameOk (que1 m).name && asked (que1 m).type)) && (opOk m && (rrsOk m.ans && (rrsOk m.aus && (rrsOk m.more && (wntsOk m.pres && wntsOk m.ups)))))))) from rfl)
 have HOP := UC (show opOk m = (if m.op = 0 then (decide (m.pres.length = 0) && decide (m.ups.length = 0)) else if m.op = 5 then (decide ((que1 m).type = 6) && (decide (m.ans.length = 0) && (decide (m.aus.length = 0) && decide (m.more.length = 0)))) else false) from rfl)
 generalize mayM m = R at *
 generalize opOk m = OPK at *
 have o0 : (m.op != 0) = true := by rw [hop]; rfl
 have o5 : (m.op != 5) = false := by rw [hop]; rfl
 have oe : (m.op == 0) = false := by rw [hop]; rfl
 have HOP' := UB HOP
 rw [if_neg (by omega), if_pos hop] at HOP'
 replace HOP := UC HOP'
 clear HOP' hop
 have H := UC (h.below b0)
 obtain ⟨d0, d1, d2, d3, d4, d5, d6, d7, d8, d9, d10⟩ := cells11 (UB KK)
 by_cases c0 : m.code < 0
 ·have hR : R = false := by have := UB HR; rw [this, decide_eq_false (by omega : ¬ (0 ≤ m.code ∧ m.code ≤ 10))]; simp
  subst hR
  clear HR HOP h
  go_enter Tryz.func17, Tryz.ntmps17
  go_wp2_with fail
  go_ret
  exact ⟨rfl, b0⟩
 by_cases c1 : 10 < m.code
 ·have hR : R = false := by have := UB HR; rw [this, decide_eq_false (by omega : ¬ (0 ≤ m.code ∧ m.code ≤ 10))]; simp
  subst hR
  clear HR HOP h
  go_enter Tryz.func17, Tryz.ntmps17
  go_wp2_with fail
  go_ret
  exact ⟨rfl, b0⟩
 by_cases q1 : m.qs.length ≠ 1
 ·have hR : R = false := by have := UB HR; rw [this, decide_eq_false q1]; simp
  subst hR
  have q2 : ((m.qs.length : Int) != 1) = true := by rw [bne_iff_ne]; omega
  clear HR HOP h q1
  go_enter Tryz.func17, Tryz.ntmps17
  go_wp2_with fail
  go_ret
  exact ⟨rfl, b0⟩
 have q1' : m.qs.length = 1 := by omega
 obtain ⟨qb, qoff, vs, rfl, hqbl, hqc, vn, rfl, hqu⟩ := h.qs.here (k := 0) (by omega)
 simp only [Nat.zero_mul, Nat.add_zero] at hqc
 have hque : m.qs.getD 0 queZ = que1 m := rfl
 rw [hque] at hqc hqu
 have hR' := UB HR
 rw [decide_eq_true (by omega : 0 ≤ m.id ∧ m.id ≤ 65535), decide_eq_true (by omega : 0 ≤ m.code ∧ m.code ≤ 10), decide_eq_true q1', Bool.true_and, Bool.true_and, Bool.true_and] at hR'
 replace HR := UC hR'
 have q2 : ((m.qs.length : Int) != 1) = false := by rw [bne_eq_false_iff_eq]; omega
 have q3 : 0 < m.qs.length := by omega
 clear hR' q1 q1' hque
 have CN := VO (hqu.below b0)
 have CA := fun (w : World) => l4asked_any (que1 m).type w
 have C1 := fun (w : World) (h : HasM w (.slice (some ⟨qb, qoff, none⟩) m.qs.length yq) (.slice xa m.ans.length ya) (.slice xb m.aus.length yb) (.slice xm m.more.length ym) (.slice xp m.pres.length yp) (.slice xu m.ups.length yu) m) => l4rrs_has h.ans
 have C2 := fun (w : World) (h : HasM w (.slice (some ⟨qb, qoff, none⟩) m.qs.length yq) (.slice xa m.ans.length ya) (.slice xb m.aus.length yb) (.slice xm m.more.length ym) (.slice xp m.pres.length yp) (.slice xu m.ups.length yu) m) => l4rrs_has h.aus
 have C3 := fun (w : World) (h : HasM w (.slice (some ⟨qb, qoff, none⟩) m.qs.length yq) (.slice xa m.ans.length ya) (.slice xb m.aus.length yb) (.slice xm m.more.length ym) (.slice xp m.pres.length yp) (.slice xu m.ups.length yu) m) => l4rrs_has h.more
 have C4 := fun (w : World) (h : HasM w (.slice (some ⟨qb, qoff, none⟩) m.qs.length yq) (.slice xa m.ans.length ya) (.slice xb m.aus.length yb) (.slice xm m.more.length ym) (.slice xp m.pres.length yp) (.slice xu m.ups.length yu) m) => l4wants_has h.pres
 have C5 := fun (w : World) (h : HasM w (.slice (some ⟨qb, qoff, none⟩) m.qs.length yq) (.slice xa m.ans.length ya) (.slice xb m.aus.length yb) (.slice xm m.more.length ym) (.slice xp m.pres.length yp) (.slice xu m.ups.length yu) m) => l4wants_has h.ups
 obtain ⟨qna, qnc, rfl, _⟩ := hqu.form
 have HQC := UC (UW hqc hqbl b0)
 have zz := b0.size
 obtain ⟨c_q0, c_q1⟩ := range2 (UB HQC)
 generalize nameOk (que1 m).name = GN at *
 generalize asked (que1 m).type = GA at *
 generalize (que1 m).type = T at *
 generalize (que1 m).name = NM at *
 generalize rrsOk m.ans = G1 at *
 generalize rrsOk m.aus = G2 at *
 generalize rrsOk m.more = G3 at *
 generalize wntsOk m.pres = G4 at *
 generalize wntsOk m.ups = G5 at *
 replace CN := UC CN
 replace CA := UC CA
 replace C1 := UC C1
 replace C2 := UC C2
 replace C3 := UC C3
 replace C4 := UC C4
 replace C5 := UC C5
 clear h hqc hqu
 go_enter Tryz.func17, Tryz.ntmps17
 go_wp2_with fail
 clear d0 d1 d2 d3 d4 d5 d6 d7 d8 d9 d10 c_q0 c_q1
 have hqblW : qb < (w.alloc (.cells #[.int .i64 m.id, .bool m.reply, .int .i64 m.op, .bool m.auth, .int .i64 m.code, .slice (some ⟨qb, qoff, none⟩) m.qs.length yq, .slice xa m.ans.length ya, .slice xb m.aus.length yb, .slice xm m.more.length ym, .slice xp m.pres.length yp, .slice xu m.ups.length yu] 27)).heap.size := Nat.lt_of_lt_of_le hqbl zz
 generalize w.alloc (.cells #[.int .i64 m.id, .bool m.reply, .int .i64 m.op, .bool m.auth, .int .i64 m.code, .slice (some ⟨qb, qoff, none⟩) m.qs.length yq, .slice xa m.ans.length ya, .slice xb m.aus.length yb, .slice xm m.more.length ym, .slice xp m.pres.length yp, .slice xu m.ups.length yu] 27) = W at *
 refine (UB CN).mono ?_
 rintro e w1 ⟨rfl, b1⟩
 replace b0 := UG b0 b1
 replace H := UC ((UB H).below b1)
 replace KK := UC (UE b1 (UB KK))
 replace HQC := UC (UW (UB HQC) hqblW b1)
 have hqbl1 := Nat.lt_of_lt_of_le hqblW b1.size
 clear b1 CN
 cases GN with
 | false =>
  have hR : R = false := by have := UB HR; rw [this]; simp
  subst hR
  go_wp2_with fail
  go_ret
  exact ⟨rfl, b0⟩
 | true =>
  obtain ⟨d0, d1, d2, d3, d4, d5, d6, d7, d8, d9, d10⟩ := cells11 (UB KK)
  obtain ⟨c_q0, c_q1⟩ := range2 (UB HQC)
  go_wp2_with fail
  clear d0 d1 d2 d3 d4 d5 d6 d7 d8 d9 d10 c_q0 c_q1
  refine (UB CA _).mono ?_
  rintro e w2 ⟨rfl, rfl⟩
  cases GA with
  | false =>
   have hR : R = false := by have := UB HR; rw [this]; simp
   subst hR
   go_wp2_with fail
   go_ret
   exact ⟨rfl, b0⟩
  | true =>
   obtain ⟨d0, d1, d2, d3, d4, d5, d6, d7, d8, d9, d10⟩ := cells11 (UB KK)
   go_wp2_with fail
   clear d0 d1 d2 d3 d4 d5 d6 d7 d8 d9 d10
   refine (UB C1 _ (UB H)).mono ?_
   rintro e v1 ⟨rfl, b1⟩
   replace b0 := UG b0 b1
   replace H := UC ((UB H).below b1)
   replace KK := UC (UE b1 (UB KK))
   replace HQC := UC (UW (UB HQC) hqbl1 b1)
   replace hqbl1 := Nat.lt_of_lt_of_le hqbl1 b1.size
   clear b1
   cases G1 with
   | false =>
    have hR : R = false := by have := UB HR; rw [this]; simp
    subst hR
    go_wp2_with fail
    go_ret
    exact ⟨rfl, b0⟩
   | true =>
    obtain ⟨d0, d1, d2, d3, d4, d5, d6, d7, d8, d9, d10⟩ := cells11 (UB KK)
    go_wp2_with fail
    clear d0 d1 d2 d3 d4 d5 d6 d7 d8 d9 d10
    refine (UB C2 _ (UB H)).mono ?_
    rintro e v2 ⟨rfl, b2⟩
    replace b0 := UG b0 b2
    replace H := UC ((UB H).below b2)
    replace KK := UC (UE b2 (UB KK))
    replace HQC := UC (UW (UB HQC) hqbl1 b2)
    replace hqbl1 := Nat.lt_of_lt_of_le hqbl1 b2.size
    clear b2
    cases G2 with
    | false =>
     have hR : R = false := by have := UB HR; rw [this]; simp
     subst hR
     go_wp2_with fail
     go_ret
     exact ⟨rfl, b0⟩
    | true =>
     obtain ⟨d0, d1, d2, d3, d4, d5, d6, d7, d8, d9, d10⟩ := cells11 (UB KK)
     go_wp2_with fail
     clear d0 d1 d2 d3 d4 d5 d6 d7 d8 d9 d10
     refine (UB C3 _ (UB H)).mono ?_
     rintro e v3 ⟨rfl, b3⟩
     replace b0 := UG b0 b3
     replace H := UC ((UB H).below b3)
     replace KK := UC (UE b3 (UB KK))
     replace HQC := UC (UW (UB HQC) hqbl1 b3)
     replace hqbl1 := Nat.lt_of_lt_of_le hqbl1 b3.size
     clear b3
     cases G3 with
     | false =>
      have hR : R = false := by have := UB HR; rw [this]; simp
      subst hR
      go_wp2_with fail
      go_ret
      exact ⟨rfl, b0⟩
     | true =>
      obtain ⟨d0, d1, d2, d3, d4, d5, d6, d7, d8, d9, d10⟩ := cells11 (UB KK)
      go_wp2_with fail
      clear d0 d1 d2 d3 d4 d5 d6 d7 d8 d9 d10
      refine (UB C4 _ (UB H)).mono ?_
      rintro e v4 ⟨rfl, b4⟩
      replace b0 := UG b0 b4
      replace H := UC ((UB H).below b4)
      replace KK := UC (UE b4 (UB KK))
      replace HQC := UC (UW (UB HQC) hqbl1 b4)
      replace hqbl1 := Nat.lt_of_lt_of_le hqbl1 b4.size
      clear b4
      cases G4 with
      | false =>
       have hR : R = false := by have := UB HR; rw [this]; simp
       subst hR
       go_wp2_with fail
       go_ret
       exact ⟨rfl, b0⟩
      | true =>
       obtain ⟨d0, d1, d2, d3, d4, d5, d6, d7, d8, d9, d10⟩ := cells11 (UB KK)
       go_wp2_with fail
       clear d0 d1 d2 d3 d4 d5 d6 d7 d8 d9 d10
       refine (UB C5 _ (UB H)).mono ?_
       rintro e v5 ⟨rfl, b5⟩
       replace b0 := UG b0 b5
       replace H := UC ((UB H).below b5)
       replace KK := UC (UE b5 (UB KK))
       replace HQC := UC (UW (UB HQC) hqbl1 b5)
       replace hqbl1 := Nat.lt_of_lt_of_le hqbl1 b5.size
       clear b5
       cases G5 with
       | false =>
        have hR : R = false := by have := UB HR; rw [this]; simp
        subst hR
        go_wp2_with fail
        go_ret
        exact ⟨rfl, b0⟩
       | true =>
        have hR : R = OPK := by have := UB HR; rw [this]; simp
        subst hR
        clear HR C1 C2 C3 C4 C5 CA H
        have hO := UB HOP
        clear HOP
        generalize m.ans.length = n_ans at *
        generalize m.aus.length = n_aus at *
        generalize m.more.length = n_more at *
        by_cases e_T : T = 6
        ·rw [decide_eq_true e_T, Bool.true_and] at hO
         subst e_T
         by_cases e_ans : n_ans = 0
         ·rw [decide_eq_true e_ans, Bool.true_and] at hO
          subst e_ans
          by_cases e_aus : n_aus = 0
          ·rw [decide_eq_true e_aus, Bool.true_and] at hO
           subst e_aus
           by_cases e_more : n_more = 0
           ·rw [decide_eq_true e_more] at hO
            subst e_more
            subst hO
            obtain ⟨d0, d1, d2, d3, d4, d5, d6, d7, d8, d9, d10⟩ := cells11 (UB KK)
            obtain ⟨c_q0, c_q1⟩ := range2 (UB HQC)
            go_wp2_with fail
            go_ret
            exact ⟨rfl, b0⟩
           ·rw [decide_eq_false e_more] at hO
            have q_more : ((n_more : Int) == 0) = false := by rw [beq_eq_false_iff_ne]; omega
            clear e_more
            subst hO
            obtain ⟨d0, d1, d2, d3, d4, d5, d6, d7, d8, d9, d10⟩ := cells11 (UB KK)
            obtain ⟨c_q0, c_q1⟩ := range2 (UB HQC)
            go_wp2_with fail
            go_ret
            exact ⟨rfl, b0⟩
          ·rw [decide_eq_false e_aus, Bool.false_and] at hO
           have q_aus : ((n_aus : Int) == 0) = false := by rw [beq_eq_false_iff_ne]; omega
           clear e_aus
           subst hO
           obtain ⟨d0, d1, d2, d3, d4, d5, d6, d7, d8, d9, d10⟩ := cells11 (UB KK)
           obtain ⟨c_q0, c_q1⟩ := range2 (UB HQC)
           go_wp2_with fail
           go_ret
           exact ⟨rfl, b0⟩
         ·rw [decide_eq_false e_ans, Bool.false_and] at hO
          have q_ans : ((n_ans : Int) == 0) = false := by rw [beq_eq_false_iff_ne]; omega
          clear e_ans
          subst hO
          obtain ⟨d0, d1, d2, d3, d4, d5, d6, d7, d8, d9, d10⟩ := cells11 (UB KK)
          obtain ⟨c_q0, c_q1⟩ := range2 (UB HQC)
          go_wp2_with fail
          go_ret
          exact ⟨rfl, b0⟩
        ·rw [decide_eq_false e_T, Bool.false_and] at hO
         have q_T : (T == 6) = false := by rw [beq_eq_false_iff_ne]; omega
         clear e_T
         subst hO
         obtain ⟨d0, d1, d2, d3, d4, d5, d6, d7, d8, d9, d10⟩ := cells11 (UB KK)
         obtain ⟨c_q0, c_q1⟩ := range2 (UB HQC)
         go_wp2_with fail
         go_ret
         exact ⟨rfl, b0⟩

theorem l4may_has {vq va vb vm vp vu : Value} {m : Mg} {w : World} (h : HasM w vq va vb vm vp vu m) :
  Calls Tryz.prog 17 #[.agg #[.int .i64 m.id, .bool m.reply, .int .i64 m.op, .bool m.auth, .int .i64 m.code, vq, va, vb, vm, vp, vu]] w fun e w' => e = .returned (.bool (mayM m)) ∧ Below w.heap.size w w' := by
 by_cases hbad : m.id < 0 ∨ 65535 < m.id ∨ (m.op ≠ 0 ∧ m.op ≠ 5)
 ·exact l4may_num h hbad
 ·by_cases h0 : m.op = 0
  ·exact l4may_q h (by omega) (by omega) h0
  ·exact l4may_u h (by omega) (by omega) (by omega)
end Go.Proofs.YtbabmdiklefgcaaGreatDoor
