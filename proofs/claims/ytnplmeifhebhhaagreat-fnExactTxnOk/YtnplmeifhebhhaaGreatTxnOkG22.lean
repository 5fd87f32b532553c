/-
  Contracts of the program's codeOk, questionsOk, opOk, listOk, listsOk and partsOk. Contracts of the program's opOk and listOk. Contracts of the program's listsOk and partsOk.
-/
import Derived.Test.YtnplmeifhebhhaaGreatTxnOkG16
import Derived.Test.YtnplmeifhebhhaaGreatTxnOkG17
import Derived.Test.YtnplmeifhebhhaaGreatTxnOkG21
namespace Go.Proofs.YtnplmeifhebhhaaGreat
open Go.RowKit
set_option linter.unusedVariables false

set_option maxHeartbeats 400000 in
set_option maxRecDepth 100000 in
theorem codeOk_any (c : Int) (w : World) : Calls Tryz.prog 50 #[.int .i64 c] w fun e w' => e = .returned (.bool (decide (0 ≤ c ∧ c ≤ 10))) ∧ w = w' := by
 by_cases h0 : 0 ≤ c
 ·by_cases h1 : c ≤ 10
  ·rw [decide_eq_true ⟨h0, h1⟩]
   go_enter Tryz.func50, Tryz.ntmps50
   go_wp2
   go_ret
   exact ⟨rfl, rfl⟩
  ·rw [decide_eq_false (fun h => h1 h.2)]
   go_enter Tryz.func50, Tryz.ntmps50
   go_wp2
   go_ret
   exact ⟨rfl, rfl⟩
 ·rw [decide_eq_false (fun h => h0 h.1)]
  go_enter Tryz.func50, Tryz.ntmps50
  go_wp2
  go_ret
  exact ⟨rfl, rfl⟩

set_option maxHeartbeats 1000000 in
set_option maxRecDepth 100000 in
theorem questionsOk_has {v : Value} {l : List Que} {w : World} (h : HasQs w v l) :
  Calls Tryz.prog 83 #[v] w fun e w' => e = .returned (.bool (queOk l)) ∧ Below w.heap.size w w' := by
 obtain ⟨a, cap, rfl, hl, hm⟩ := h.form
 unfold queOk
 by_cases h1 : l.length = 1
 ·obtain ⟨b, off, vs, rfl, hbl, hc, vn, rfl, hu⟩ := h.here (k := 0) (by omega)
  rw [decide_eq_true h1, Bool.true_and]
  simp only [Nat.zero_mul, Nat.add_zero] at hc
  have HN := implNameOk_has hu
  generalize l.getD 0 queZ = q at *
  obtain ⟨na, nc, rfl, _⟩ := hu.form
  obtain ⟨c0, c1⟩ := range2 hc
  have HC := hide hc
  clear hu hm hc
  generalize l.length = m at *
  subst h1
  cases hn : nameOk q.name with
  | false =>
   rw [hn] at HN
   replace HN := hide HN
   rw [Bool.false_and]
   go_enter Tryz.func83, Tryz.ntmps83
   go_wp2_with fail
   refine (unhide HN).mono ?_
   rintro e w1 ⟨rfl, b1⟩
   clear c0 c1
   go_wp2_with fail
   go_ret
   exact ⟨rfl, b1⟩
  | true =>
   rw [hn] at HN
   replace HN := hide HN
   rw [Bool.true_and]
   have HA := fun w => askable_any q.type w
   generalize asked q.type = A at *
   replace HA := hide HA
   go_enter Tryz.func83, Tryz.ntmps83
   go_wp2_with fail
   refine (unhide HN).mono ?_
   rintro e w1 ⟨rfl, b1⟩
   clear c0 c1
   obtain ⟨c0, c1⟩ := range2 (range_below (unhide HC) hbl b1)
   go_wp2_with fail
   refine (unhide HA _).mono ?_
   rintro e w2 ⟨rfl, rfl⟩
   go_wp2_with fail
   go_ret
   exact ⟨rfl, b1⟩
 ·rw [decide_eq_false h1, Bool.false_and]
  clear h
  unfold maxLen at hm
  generalize l.length = m at *
  have h2 : ((m : Int) == 1) = false := by rw [beq_eq_false_iff_ne]; omega
  clear h1
  go_enter Tryz.func83, Tryz.ntmps83
  go_wp2_with fail
  go_ret
  exact ⟨rfl, Below.refl _ _⟩
end Go.Proofs.YtnplmeifhebhhaaGreat

namespace Go.Proofs.YtnplmeifhebhhaaGreat
open Go.RowKit
set_option linter.unusedVariables false

set_option maxHeartbeats 1000000 in
set_option maxRecDepth 100000 in
theorem opOk_has {vq va vb vm vp vu : Value} {m : Mg} {w : World} (h : HasM w vq va vb vm vp vu m) (h1 : m.qs.length = 1) :
  Calls Tryz.prog 84 #[.agg #[.int .i64 m.id, .bool m.reply, .int .i64 m.op, .bool m.auth, .int .i64 m.code, vq, va, vb, vm, vp, vu]] w fun e w' => e = .returned (.bool (opOk m)) ∧ Below w.heap.size w w' := by
 obtain ⟨xq, yq, rfl, _, zq⟩ := h.qs.form
 obtain ⟨xa, ya, rfl, _, za⟩ := h.ans.form
 obtain ⟨xb, yb, rfl, _, zb⟩ := h.aus.form
 obtain ⟨xm, ym, rfl, _, zm⟩ := h.more.form
 obtain ⟨xp, yp, rfl, _, zp⟩ := h.pres.form
 obtain ⟨xu, yu, rfl, _, zu⟩ := h.ups.form
 have b0 := below_alloc (w := w) (.cells #[.int .i64 m.id, .bool m.reply, .int .i64 m.op, .bool m.auth, .int .i64 m.code, .slice xq m.qs.length yq, .slice xa m.ans.length ya, .slice xb m.aus.length yb, .slice xm m.more.length ym, .slice xp m.pres.length yp, .slice xu m.ups.length yu] 33)
 have KK := hide (heap_alloc_new w (.cells #[.int .i64 m.id, .bool m.reply, .int .i64 m.op, .bool m.auth, .int .i64 m.code, .slice xq m.qs.length yq, .slice xa m.ans.length ya, .slice xb m.aus.length yb, .slice xm m.more.length ym, .slice xp m.pres.length yp, .slice xu m.ups.length yu] 33))
 obtain ⟨d0, d1, d2, d3, d4, d5, d6, d7, d8, d9, d10⟩ := cells11 (unhide KK)
 obtain ⟨b, off, vs, rfl, hbl, hc, vn, rfl, hu⟩ := h.qs.here (k := 0) (by omega)
 simp only [Nat.zero_mul, Nat.add_zero] at hc
 obtain ⟨c0, c1⟩ := range2 (range_below hc hbl b0)
 unfold opOk que1
 unfold maxLen at *
 generalize (m.qs.getD 0 queZ).type = T at *
 have hqs : 0 < m.qs.length := by omega
 generalize m.ans.length = n_ans at *
 generalize m.aus.length = n_aus at *
 generalize m.more.length = n_more at *
 generalize m.pres.length = n_pres at *
 generalize m.ups.length = n_ups at *
 clear h hu hc h1
 by_cases h0 : m.op = 0
 ·rw [if_pos h0]
  have o0 : (m.op == 0) = true := by rw [beq_iff_eq]; exact h0
  generalize m.op = O at *
  clear h0
  by_cases e_pres : n_pres = 0
  ·rw [decide_eq_true e_pres]
   subst e_pres
   by_cases e_ups : n_ups = 0
   ·rw [decide_eq_true e_ups]
    subst e_ups
    show Calls Tryz.prog _ _ w (fun e w' => e = .returned (.bool true) ∧ Below w.heap.size w w')
    go_enter Tryz.func84, Tryz.ntmps84
    go_wp2_with fail
    go_ret
    exact ⟨rfl, b0⟩
   ·rw [decide_eq_false e_ups]
    have q_ups : ((n_ups : Int) == 0) = false := by rw [beq_eq_false_iff_ne]; omega
    clear e_ups
    show Calls Tryz.prog _ _ w (fun e w' => e = .returned (.bool false) ∧ Below w.heap.size w w')
    go_enter Tryz.func84, Tryz.ntmps84
    go_wp2_with fail
    go_ret
    exact ⟨rfl, b0⟩
  ·rw [decide_eq_false e_pres]
   have q_pres : ((n_pres : Int) == 0) = false := by rw [beq_eq_false_iff_ne]; omega
   clear e_pres
   show Calls Tryz.prog _ _ w (fun e w' => e = .returned (.bool false) ∧ Below w.heap.size w w')
   go_enter Tryz.func84, Tryz.ntmps84
   go_wp2_with fail
   go_ret
   exact ⟨rfl, b0⟩
 ·rw [if_neg h0]
  have o0 : (m.op == 0) = false := by rw [beq_eq_false_iff_ne]; exact h0
  by_cases h5 : m.op = 5
  ·rw [if_pos h5]
   have o5 : (m.op == 5) = true := by rw [beq_iff_eq]; exact h5
   generalize m.op = O at *
   clear h0 h5
   by_cases e_T : T = 6
   ·rw [decide_eq_true e_T]
    subst e_T
    by_cases e_ans : n_ans = 0
    ·rw [decide_eq_true e_ans]
     subst e_ans
     by_cases e_aus : n_aus = 0
     ·rw [decide_eq_true e_aus]
      subst e_aus
      by_cases e_more : n_more = 0
      ·rw [decide_eq_true e_more]
       subst e_more
       show Calls Tryz.prog _ _ w (fun e w' => e = .returned (.bool true) ∧ Below w.heap.size w w')
       go_enter Tryz.func84, Tryz.ntmps84
       go_wp2_with fail
       go_ret
       exact ⟨rfl, b0⟩
      ·rw [decide_eq_false e_more]
       have q_more : ((n_more : Int) == 0) = false := by rw [beq_eq_false_iff_ne]; omega
       clear e_more
       show Calls Tryz.prog _ _ w (fun e w' => e = .returned (.bool false) ∧ Below w.heap.size w w')
       go_enter Tryz.func84, Tryz.ntmps84
       go_wp2_with fail
       go_ret
       exact ⟨rfl, b0⟩
     ·rw [decide_eq_false e_aus]
      have q_aus : ((n_aus : Int) == 0) = false := by rw [beq_eq_false_iff_ne]; omega
      clear e_aus
      show Calls Tryz.prog _ _ w (fun e w' => e = .returned (.bool false) ∧ Below w.heap.size w w')
      go_enter Tryz.func84, Tryz.ntmps84
      go_wp2_with fail
      go_ret
      exact ⟨rfl, b0⟩
    ·rw [decide_eq_false e_ans]
     have q_ans : ((n_ans : Int) == 0) = false := by rw [beq_eq_false_iff_ne]; omega
     clear e_ans
     show Calls Tryz.prog _ _ w (fun e w' => e = .returned (.bool false) ∧ Below w.heap.size w w')
     go_enter Tryz.func84, Tryz.ntmps84
     go_wp2_with fail
     go_ret
     exact ⟨rfl, b0⟩
   ·rw [decide_eq_false e_T]
    have q_T : (T == 6) = false := by rw [beq_eq_false_iff_ne]; omega
    clear e_T
    show Calls Tryz.prog _ _ w (fun e w' => e = .returned (.bool false) ∧ Below w.heap.size w w')
    go_enter Tryz.func84, Tryz.ntmps84
    go_wp2_with fail
    go_ret
    exact ⟨rfl, b0⟩
  ·rw [if_neg h5]
   have o5 : (m.op == 5) = false := by rw [beq_eq_false_iff_ne]; exact h5
   generalize m.op = O at *
   clear h0 h5
   go_enter Tryz.func84, Tryz.ntmps84
   go_wp2_with fail
   go_ret
   exact ⟨rfl, b0⟩

set_option maxHeartbeats 1000000 in
set_option maxRecDepth 100000 in
theorem listOkRr_has {v : Value} {l : List Rec} {w : World} (h : HasRs w v l) :
  Calls Tryz.prog 111 #[v, .func (Fn.func 112) #[] #[]] w fun e w' => e = .returned (.bool (rrsOk l)) ∧ Below w.heap.size w w' := by
 obtain ⟨a, cap, rfl, hl, hm⟩ := h.form
 unfold rrsOk maxLen at *
 have HA := hide (all_of (p := rrOk) l recZ)
 have HB := hide (fun k (hk : k < l.length) (hp : rrOk (l.getD k recZ) = false) => all_not (p := rrOk) l recZ hk hp)
 by_cases h12 : l.length ≤ 12
 ·rw [decide_eq_true h12, Bool.true_and]
  generalize l.all rrOk = R at *
  generalize hn : l.length = m at *
  have HN := hide hn
  have H := hide h
  clear hn h
  go_enter Tryz.func111, Tryz.ntmps111
  go_wp2
  go_loopw [12] (fun i wr => ∃ k : Nat, k ≤ m ∧ i = .int .i64 k ∧ Hid (∀ j, j < k → rrOk (l.getD j recZ) = true) ∧ Below w.heap.size w wr) (fun i _ => m - (intOf i).toNat)
  case atStart => exact ⟨0, Nat.zero_le _, rfl, hide (fun j hj => absurd hj (Nat.not_lt_zero _)), Below.refl _ _⟩
  case round =>
   obtain ⟨k, hk, rfl, hall, hb⟩ := hrel
   by_cases hlt : k < m
   ·obtain ⟨b, off, na, nc, ta, tc, xa, xc, ia, ic, rfl, hbl, hc, hu⟩ := ((unhide H).below hb).here (k := k) (by rw [unhide HN]; exact hlt)
    have hbk := unhide HB k hlt
    have HBK := hide hbk
    have hone := hide (fun (hs : rrOk (l.getD k recZ) = true) => (show ∀ j, j < k + 1 → rrOk (l.getD j recZ) = true from fun j hj => by
      by_cases e : j = k
      ·subst e; exact hs
      ·exact unhide hall j (by omega)))
    clear hbk
    generalize l.getD k recZ = rk at *
    have bA := fun o => below_alloc (w := wr) o
    have HC := hide (fun o => implRrOk_has (hu.below (below_alloc (w := wr) o)))
    obtain ⟨c0, c1, c2, c3, c4, c5, c6⟩ := range7 hc
    clear hc hu
    cases hp : rrOk rk with
    | true =>
     have HC' := unhide HC
     rw [show rrOk rk = true from hp] at HC'
     replace HC := hide HC'
     clear HC'
     go_wp2_with fail
     refine (unhide HC _).mono ?_
     rintro e w1 ⟨rfl, b1⟩
     clear c0 c1 c2 c3 c4 c5 c6
     have b2 := below_next (below_next hb (bA _)) b1
     clear b1 bA
     go_wp2_with fail
     exact ⟨⟨k + 1, by omega, by go_num, hide (unhide hone hp), b2⟩, by simp [intOf]; omega⟩
    | false =>
     have HC' := unhide HC
     rw [show rrOk rk = false from hp] at HC'
     replace HC := hide HC'
     clear HC'
     have hR := unhide HBK hp
     subst hR
     go_wp2_with fail
     refine (unhide HC _).mono ?_
     rintro e w1 ⟨rfl, b1⟩
     clear c0 c1 c2 c3 c4 c5 c6
     have b2 := below_next (below_next hb (bA _)) b1
     clear b1 bA
     go_wp2_with fail
     go_ret
     exact ⟨rfl, b2⟩
   ·obtain rfl : k = m := by omega
    have hR := unhide HA (unhide hall)
    subst hR
    go_wp2
    go_ret
    exact ⟨rfl, hb⟩
 ·rw [decide_eq_false h12, Bool.false_and]
  clear HA HB h
  generalize l.length = m at *
  go_enter Tryz.func111, Tryz.ntmps111
  go_wp2
  go_ret
  exact ⟨rfl, Below.refl _ _⟩

set_option maxHeartbeats 1000000 in
set_option maxRecDepth 100000 in
theorem listOkWant_has {v : Value} {l : List Wnt} {w : World} (h : HasWs w v l) :
  Calls Tryz.prog 113 #[v, .func (Fn.func 114) #[] #[]] w fun e w' => e = .returned (.bool (wntsOk l)) ∧ Below w.heap.size w w' := by
 obtain ⟨a, cap, rfl, hl, hm⟩ := h.form
 unfold wntsOk maxLen at *
 have HA := hide (all_of (p := wntOk) l wntZ)
 have HB := hide (fun k (hk : k < l.length) (hp : wntOk (l.getD k wntZ) = false) => all_not (p := wntOk) l wntZ hk hp)
 by_cases h12 : l.length ≤ 12
 ·rw [decide_eq_true h12, Bool.true_and]
  generalize l.all wntOk = R at *
  generalize hn : l.length = m at *
  have HN := hide hn
  have H := hide h
  clear hn h
  go_enter Tryz.func113, Tryz.ntmps113
  go_wp2
  go_loopw [12] (fun i wr => ∃ k : Nat, k ≤ m ∧ i = .int .i64 k ∧ Hid (∀ j, j < k → wntOk (l.getD j wntZ) = true) ∧ Below w.heap.size w wr) (fun i _ => m - (intOf i).toNat)
  case atStart => exact ⟨0, Nat.zero_le _, rfl, hide (fun j hj => absurd hj (Nat.not_lt_zero _)), Below.refl _ _⟩
  case round =>
   obtain ⟨k, hk, rfl, hall, hb⟩ := hrel
   by_cases hlt : k < m
   ·obtain ⟨b, off, vs, rfl, hbl, hc, vn, vt, vx, vi, rfl, hu⟩ := (keptWs (unhide H) hb).here (k := k) (by rw [unhide HN]; exact hlt)
    have hbk := unhide HB k hlt
    have HBK := hide hbk
    have hone := hide (fun (hs : wntOk (l.getD k wntZ) = true) => (show ∀ j, j < k + 1 → wntOk (l.getD j wntZ) = true from fun j hj => by
      by_cases e : j = k
      ·subst e; exact hs
      ·exact unhide hall j (by omega)))
    clear hbk
    generalize l.getD k wntZ = rk at *
    obtain ⟨na, nc, rfl, _⟩ := hu.name.form
    obtain ⟨ta, tc, rfl, _⟩ := hu.to.form
    obtain ⟨xa, xc, rfl, _⟩ := hu.text.form
    obtain ⟨ia, ic, rfl, _⟩ := hu.nums.form
    have bA := fun o => below_alloc (w := wr) o
    have HC := hide (fun o => implWantOk_has rk.cls rk.bare (hu.below (below_alloc (w := wr) o)))
    obtain ⟨c0, c1, c2, c3, c4, c5, c6, c7, c8⟩ := range9 hc
    clear hc hu
    cases hp : wntOk rk with
    | true =>
     have HC' := unhide HC
     rw [show wantOk rk.rr rk.cls rk.bare = true from hp] at HC'
     replace HC := hide HC'
     clear HC'
     go_wp2_with fail
     refine (unhide HC _).mono ?_
     rintro e w1 ⟨rfl, b1⟩
     clear c0 c1 c2 c3 c4 c5 c6 c7 c8
     have b2 := below_next (below_next hb (bA _)) b1
     clear b1 bA
     go_wp2_with fail
     exact ⟨⟨k + 1, by omega, by go_num, hide (unhide hone hp), b2⟩, by simp [intOf]; omega⟩
    | false =>
     have HC' := unhide HC
     rw [show wantOk rk.rr rk.cls rk.bare = false from hp] at HC'
     replace HC := hide HC'
     clear HC'
     have hR := unhide HBK hp
     subst hR
     go_wp2_with fail
     refine (unhide HC _).mono ?_
     rintro e w1 ⟨rfl, b1⟩
     clear c0 c1 c2 c3 c4 c5 c6 c7 c8
     have b2 := below_next (below_next hb (bA _)) b1
     clear b1 bA
     go_wp2_with fail
     go_ret
     exact ⟨rfl, b2⟩
   ·obtain rfl : k = m := by omega
    have hR := unhide HA (unhide hall)
    subst hR
    go_wp2
    go_ret
    exact ⟨rfl, hb⟩
 ·rw [decide_eq_false h12, Bool.false_and]
  clear HA HB h
  generalize l.length = m at *
  go_enter Tryz.func113, Tryz.ntmps113
  go_wp2
  go_ret
  exact ⟨rfl, Below.refl _ _⟩
end Go.Proofs.YtnplmeifhebhhaaGreat

namespace Go.Proofs.YtnplmeifhebhhaaGreat
open Go.RowKit
set_option linter.unusedVariables false

theorem queOk_one {l : List Que} (h : queOk l = true) : l.length = 1 := by
 unfold queOk at h
 simp only [Bool.and_eq_true, decide_eq_true_eq] at h
 exact h.1

set_option maxHeartbeats 1000000 in
set_option maxRecDepth 100000 in
theorem listsOk_has {vq va vb vm vp vu : Value} {m : Mg} {w : World} (h : HasM w vq va vb vm vp vu m) :
  Calls Tryz.prog 85 #[.agg #[.int .i64 m.id, .bool m.reply, .int .i64 m.op, .bool m.auth, .int .i64 m.code, vq, va, vb, vm, vp, vu]] w fun e w' => e = .returned (.bool (listsOk m)) ∧ Below w.heap.size w w' := by
 obtain ⟨xq, yq, rfl, _, zq⟩ := h.qs.form
 obtain ⟨xa, ya, rfl, _, za⟩ := h.ans.form
 obtain ⟨xb, yb, rfl, _, zb⟩ := h.aus.form
 obtain ⟨xm, ym, rfl, _, zm⟩ := h.more.form
 obtain ⟨xp, yp, rfl, _, zp⟩ := h.pres.form
 obtain ⟨xu, yu, rfl, _, zu⟩ := h.ups.form
 have b0' := below_alloc (w := w) (.cells #[.int .i64 m.id, .bool m.reply, .int .i64 m.op, .bool m.auth, .int .i64 m.code, .slice xq m.qs.length yq, .slice xa m.ans.length ya, .slice xb m.aus.length yb, .slice xm m.more.length ym, .slice xp m.pres.length yp, .slice xu m.ups.length yu] 33)
 have KK := hide (heap_alloc_new w (.cells #[.int .i64 m.id, .bool m.reply, .int .i64 m.op, .bool m.auth, .int .i64 m.code, .slice xq m.qs.length yq, .slice xa m.ans.length ya, .slice xb m.aus.length yb, .slice xm m.more.length ym, .slice xp m.pres.length yp, .slice xu m.ups.length yu] 33))
 have H := hide (h.below b0')
 unfold listsOk
 have C0 := fun (w : World) (h : HasM w (.slice xq m.qs.length yq) (.slice xa m.ans.length ya) (.slice xb m.aus.length yb) (.slice xm m.more.length ym) (.slice xp m.pres.length yp) (.slice xu m.ups.length yu) m) => listOkRr_has h.ans
 have C1 := fun (w : World) (h : HasM w (.slice xq m.qs.length yq) (.slice xa m.ans.length ya) (.slice xb m.aus.length yb) (.slice xm m.more.length ym) (.slice xp m.pres.length yp) (.slice xu m.ups.length yu) m) => listOkRr_has h.aus
 have C2 := fun (w : World) (h : HasM w (.slice xq m.qs.length yq) (.slice xa m.ans.length ya) (.slice xb m.aus.length yb) (.slice xm m.more.length ym) (.slice xp m.pres.length yp) (.slice xu m.ups.length yu) m) => listOkRr_has h.more
 have C3 := fun (w : World) (h : HasM w (.slice xq m.qs.length yq) (.slice xa m.ans.length ya) (.slice xb m.aus.length yb) (.slice xm m.more.length ym) (.slice xp m.pres.length yp) (.slice xu m.ups.length yu) m) => listOkWant_has h.pres
 have C4 := fun (w : World) (h : HasM w (.slice xq m.qs.length yq) (.slice xa m.ans.length ya) (.slice xb m.aus.length yb) (.slice xm m.more.length ym) (.slice xp m.pres.length yp) (.slice xu m.ups.length yu) m) => listOkWant_has h.ups
 generalize rrsOk m.ans = G0 at *
 generalize rrsOk m.aus = G1 at *
 generalize rrsOk m.more = G2 at *
 generalize wntsOk m.pres = G3 at *
 generalize wntsOk m.ups = G4 at *
 replace C0 := hide C0
 replace C1 := hide C1
 replace C2 := hide C2
 replace C3 := hide C3
 replace C4 := hide C4
 clear h
 obtain ⟨d0, d1, d2, d3, d4, d5, d6, d7, d8, d9, d10⟩ := cells11 (unhide KK)
 go_enter Tryz.func85, Tryz.ntmps85
 go_wp2_with fail
 clear d0 d1 d2 d3 d4 d5 d6 d7 d8 d9 d10
 generalize w.alloc (.cells #[.int .i64 m.id, .bool m.reply, .int .i64 m.op, .bool m.auth, .int .i64 m.code, .slice xq m.qs.length yq, .slice xa m.ans.length ya, .slice xb m.aus.length yb, .slice xm m.more.length ym, .slice xp m.pres.length yp, .slice xu m.ups.length yu] 33) = W at *
 refine (unhide C0 _ (unhide H)).mono ?_
 rintro e w0 ⟨rfl, b0⟩
 replace b0' := below_next b0' b0
 replace H := hide ((unhide H).below b0)
 replace KK := hide (block_kept b0 (unhide KK))
 clear b0
 cases G0 with
 | false =>
  go_wp2_with fail
  go_ret
  exact ⟨rfl, b0'⟩
 | true =>
  obtain ⟨d0, d1, d2, d3, d4, d5, d6, d7, d8, d9, d10⟩ := cells11 (unhide KK)
  go_wp2_with fail
  clear d0 d1 d2 d3 d4 d5 d6 d7 d8 d9 d10
  refine (unhide C1 _ (unhide H)).mono ?_
  rintro e w1 ⟨rfl, b1⟩
  replace b0' := below_next b0' b1
  replace H := hide ((unhide H).below b1)
  replace KK := hide (block_kept b1 (unhide KK))
  clear b1
  cases G1 with
  | false =>
   go_wp2_with fail
   go_ret
   exact ⟨rfl, b0'⟩
  | true =>
   obtain ⟨d0, d1, d2, d3, d4, d5, d6, d7, d8, d9, d10⟩ := cells11 (unhide KK)
   go_wp2_with fail
   clear d0 d1 d2 d3 d4 d5 d6 d7 d8 d9 d10
   refine (unhide C2 _ (unhide H)).mono ?_
   rintro e w2 ⟨rfl, b2⟩
   replace b0' := below_next b0' b2
   replace H := hide ((unhide H).below b2)
   replace KK := hide (block_kept b2 (unhide KK))
   clear b2
   cases G2 with
   | false =>
    go_wp2_with fail
    go_ret
    exact ⟨rfl, b0'⟩
   | true =>
    obtain ⟨d0, d1, d2, d3, d4, d5, d6, d7, d8, d9, d10⟩ := cells11 (unhide KK)
    go_wp2_with fail
    clear d0 d1 d2 d3 d4 d5 d6 d7 d8 d9 d10
    refine (unhide C3 _ (unhide H)).mono ?_
    rintro e w3 ⟨rfl, b3⟩
    replace b0' := below_next b0' b3
    replace H := hide ((unhide H).below b3)
    replace KK := hide (block_kept b3 (unhide KK))
    clear b3
    cases G3 with
    | false =>
     go_wp2_with fail
     go_ret
     exact ⟨rfl, b0'⟩
    | true =>
     obtain ⟨d0, d1, d2, d3, d4, d5, d6, d7, d8, d9, d10⟩ := cells11 (unhide KK)
     go_wp2_with fail
     clear d0 d1 d2 d3 d4 d5 d6 d7 d8 d9 d10
     refine (unhide C4 _ (unhide H)).mono ?_
     rintro e w4 ⟨rfl, b4⟩
     replace b0' := below_next b0' b4
     replace H := hide ((unhide H).below b4)
     replace KK := hide (block_kept b4 (unhide KK))
     clear b4
     go_wp2_with fail
     go_ret
     exact ⟨rfl, b0'⟩

set_option maxHeartbeats 1000000 in
set_option maxRecDepth 100000 in
theorem partsOk_has {vq va vb vm vp vu : Value} {m : Mg} {w : World} (h : HasM w vq va vb vm vp vu m) :
  Calls Tryz.prog 41 #[.agg #[.int .i64 m.id, .bool m.reply, .int .i64 m.op, .bool m.auth, .int .i64 m.code, vq, va, vb, vm, vp, vu]] w fun e w' => e = .returned (.bool (mayM m)) ∧ Below w.heap.size w w' := by
 obtain ⟨xq, yq, rfl, _, zq⟩ := h.qs.form
 obtain ⟨xa, ya, rfl, _, za⟩ := h.ans.form
 obtain ⟨xb, yb, rfl, _, zb⟩ := h.aus.form
 obtain ⟨xm, ym, rfl, _, zm⟩ := h.more.form
 obtain ⟨xp, yp, rfl, _, zp⟩ := h.pres.form
 obtain ⟨xu, yu, rfl, _, zu⟩ := h.ups.form
 have b0' := below_alloc (w := w) (.cells #[.int .i64 m.id, .bool m.reply, .int .i64 m.op, .bool m.auth, .int .i64 m.code, .slice xq m.qs.length yq, .slice xa m.ans.length ya, .slice xb m.aus.length yb, .slice xm m.more.length ym, .slice xp m.pres.length yp, .slice xu m.ups.length yu] 33)
 have KK := hide (heap_alloc_new w (.cells #[.int .i64 m.id, .bool m.reply, .int .i64 m.op, .bool m.auth, .int .i64 m.code, .slice xq m.qs.length yq, .slice xa m.ans.length ya, .slice xb m.aus.length yb, .slice xm m.more.length ym, .slice xp m.pres.length yp, .slice xu m.ups.length yu] 33))
 have H := hide (h.below b0')
 unfold mayM
 have C0 := fun (w : World) (h : HasM w (.slice xq m.qs.length yq) (.slice xa m.ans.length ya) (.slice xb m.aus.length yb) (.slice xm m.more.length ym) (.slice xp m.pres.length yp) (.slice xu m.ups.length yu) m) => upTo_any m.id 65535 w
 have C1 := fun (w : World) (h : HasM w (.slice xq m.qs.length yq) (.slice xa m.ans.length ya) (.slice xb m.aus.length yb) (.slice xm m.more.length ym) (.slice xp m.pres.length yp) (.slice xu m.ups.length yu) m) => codeOk_any m.code w
 have C2 := fun (w : World) (h : HasM w (.slice xq m.qs.length yq) (.slice xa m.ans.length ya) (.slice xb m.aus.length yb) (.slice xm m.more.length ym) (.slice xp m.pres.length yp) (.slice xu m.ups.length yu) m) => questionsOk_has h.qs
 have C3 := fun (w : World) (h : HasM w (.slice xq m.qs.length yq) (.slice xa m.ans.length ya) (.slice xb m.aus.length yb) (.slice xm m.more.length ym) (.slice xp m.pres.length yp) (.slice xu m.ups.length yu) m) => fun (q : queOk m.qs = true) => opOk_has h (queOk_one q)
 have C4 := fun (w : World) (h : HasM w (.slice xq m.qs.length yq) (.slice xa m.ans.length ya) (.slice xb m.aus.length yb) (.slice xm m.more.length ym) (.slice xp m.pres.length yp) (.slice xu m.ups.length yu) m) => listsOk_has h
 generalize decide (0 ≤ m.id ∧ m.id ≤ 65535) = G0 at *
 generalize decide (0 ≤ m.code ∧ m.code ≤ 10) = G1 at *
 generalize queOk m.qs = G2 at *
 generalize opOk m = G3 at *
 generalize listsOk m = G4 at *
 replace C0 := hide C0
 replace C1 := hide C1
 replace C2 := hide C2
 replace C3 := hide C3
 replace C4 := hide C4
 clear h
 obtain ⟨d0, d1, d2, d3, d4, d5, d6, d7, d8, d9, d10⟩ := cells11 (unhide KK)
 go_enter Tryz.func41, Tryz.ntmps41
 go_wp2_with fail
 clear d0 d1 d2 d3 d4 d5 d6 d7 d8 d9 d10
 generalize w.alloc (.cells #[.int .i64 m.id, .bool m.reply, .int .i64 m.op, .bool m.auth, .int .i64 m.code, .slice xq m.qs.length yq, .slice xa m.ans.length ya, .slice xb m.aus.length yb, .slice xm m.more.length ym, .slice xp m.pres.length yp, .slice xu m.ups.length yu] 33) = W at *
 refine (unhide C0 _ (unhide H)).mono ?_
 rintro e w0 ⟨rfl, rfl⟩
 cases G0 with
 | false =>
  go_wp2_with fail
  go_ret
  exact ⟨rfl, b0'⟩
 | true =>
  obtain ⟨d0, d1, d2, d3, d4, d5, d6, d7, d8, d9, d10⟩ := cells11 (unhide KK)
  go_wp2_with fail
  clear d0 d1 d2 d3 d4 d5 d6 d7 d8 d9 d10
  refine (unhide C1 _ (unhide H)).mono ?_
  rintro e w1 ⟨rfl, rfl⟩
  cases G1 with
  | false =>
   go_wp2_with fail
   go_ret
   exact ⟨rfl, b0'⟩
  | true =>
   obtain ⟨d0, d1, d2, d3, d4, d5, d6, d7, d8, d9, d10⟩ := cells11 (unhide KK)
   go_wp2_with fail
   clear d0 d1 d2 d3 d4 d5 d6 d7 d8 d9 d10
   refine (unhide C2 _ (unhide H)).mono ?_
   rintro e w2 ⟨rfl, b2⟩
   replace b0' := below_next b0' b2
   replace H := hide ((unhide H).below b2)
   replace KK := hide (block_kept b2 (unhide KK))
   clear b2
   cases G2 with
   | false =>
    go_wp2_with fail
    go_ret
    exact ⟨rfl, b0'⟩
   | true =>
    obtain ⟨d0, d1, d2, d3, d4, d5, d6, d7, d8, d9, d10⟩ := cells11 (unhide KK)
    go_wp2_with fail
    clear d0 d1 d2 d3 d4 d5 d6 d7 d8 d9 d10
    refine (unhide C3 _ (unhide H) (by trivial)).mono ?_
    rintro e w3 ⟨rfl, b3⟩
    replace b0' := below_next b0' b3
    replace H := hide ((unhide H).below b3)
    replace KK := hide (block_kept b3 (unhide KK))
    clear b3
    cases G3 with
    | false =>
     go_wp2_with fail
     go_ret
     exact ⟨rfl, b0'⟩
    | true =>
     obtain ⟨d0, d1, d2, d3, d4, d5, d6, d7, d8, d9, d10⟩ := cells11 (unhide KK)
     go_wp2_with fail
     clear d0 d1 d2 d3 d4 d5 d6 d7 d8 d9 d10
     refine (unhide C4 _ (unhide H)).mono ?_
     rintro e w4 ⟨rfl, b4⟩
     replace b0' := below_next b0' b4
     replace H := hide ((unhide H).below b4)
     replace KK := hide (block_kept b4 (unhide KK))
     clear b4
     go_wp2_with fail
     go_ret
     exact ⟨rfl, b0'⟩
end Go.Proofs.YtnplmeifhebhhaaGreat
