/-
  Contracts of the program's listsOk and partsOk. Contracts of the program's appendCounted: behind a row of the caller's own a byte with how many bytes a text has, and the text. Contracts of the program's copyBytes: new memory with the same bytes. Contracts of the program's NamePut. Contracts of the program's Put32. Contracts of the program's data: each kind's bytes.
-/
import Derived.Test.YtfbfakdkemlbmaaGreatTxnBytesG19
import Derived.Test.YtfbfakdkemlbmaaGreatTxnBytesG04
import Derived.Test.YtfbfakdkemlbmaaGreatTxnBytesG01
import Derived.Test.YtfbfakdkemlbmaaGreatTxnBytesG16
import Derived.Test.YtfbfakdkemlbmaaGreatTxnBytesG15
import Derived.Test.YtfbfakdkemlbmaaGreatTxnBytesG17
namespace Go.Proofs.YtfbfakdkemlbmaaGreat
open Go.RowKit
set_option linter.unusedVariables false

theorem queOk_one {l : List Que} (h : queOk l = true) : l.length = 1 := by
 unfold queOk at h
 simp only [Bool.and_eq_true, decide_eq_true_eq] at h
 exact h.1

set_option maxHeartbeats 1000000 in
set_option maxRecDepth 100000 in
theorem listsOk_has {vq va vb vm vp vu : Value} {m : Mg} {w : World} (h : HasM w vq va vb vm vp vu m) :
  Calls Tryz.prog 113 #[.agg #[.int .i64 m.id, .bool m.reply, .int .i64 m.op, .bool m.auth, .int .i64 m.code, vq, va, vb, vm, vp, vu]] w fun e w' => e = .returned (.bool (listsOk m)) ∧ Below w.heap.size w w' := by
 obtain ⟨xq, yq, rfl, _, zq⟩ := h.qs.form
 obtain ⟨xa, ya, rfl, _, za⟩ := h.ans.form
 obtain ⟨xb, yb, rfl, _, zb⟩ := h.aus.form
 obtain ⟨xm, ym, rfl, _, zm⟩ := h.more.form
 obtain ⟨xp, yp, rfl, _, zp⟩ := h.pres.form
 obtain ⟨xu, yu, rfl, _, zu⟩ := h.ups.form
 have b0' := below_alloc (w := w) (.cells #[.int .i64 m.id, .bool m.reply, .int .i64 m.op, .bool m.auth, .int .i64 m.code, .slice xq m.qs.length yq, .slice xa m.ans.length ya, .slice xb m.aus.length yb, .slice xm m.more.length ym, .slice xp m.pres.length yp, .slice xu m.ups.length yu] 37)
 have KK := hide (heap_alloc_new w (.cells #[.int .i64 m.id, .bool m.reply, .int .i64 m.op, .bool m.auth, .int .i64 m.code, .slice xq m.qs.length yq, .slice xa m.ans.length ya, .slice xb m.aus.length yb, .slice xm m.more.length ym, .slice xp m.pres.length yp, .slice xu m.ups.length yu] 37))
 have H := hide (h.below b0')
 unfold listsOk
 have C0 := fun (w : World) (h : HasM w (.slice xq m.qs.length yq) (.slice xa m.ans.length ya) (.slice xb m.aus.length yb) (.slice xm m.more.length ym) (.slice xp m.pres.length yp) (.slice xu m.ups.length yu) m) => listOkRr_has h.ans
 have C1 := fun (w : World) (h : HasM w (.slice xq m.qs.length yq) (.slice xa m.ans.length ya) (.slice xb m.aus.length yb) (.slice xm m.more.length ym) (.slice xp m.pres.length yp) (.slice xu m.ups.length yu) m) => listOkRr_has h.aus
 have C2 := fun (w : World) (h : HasM w (.slice xq m.qs.length yq) (.slice xa m.ans.length ya) (.slice xb m.aus.length yb) (.slice xm m.more.length ym) (.slice xp m.pres.length yp) (.slice xu m.ups.length yu) m) => listOkRr_has h.more
 have C3 := fun (w : World) (h : HasM w (.slice xq m.qs.length yq) (.slice xa m.ans.length ya) (.slice xb m.aus.length yb) (.slice xm m.more.length ym) (.slice xp m.pres.length yp) (.slice xu m.ups.length yu) m) => listOkWant_has h.pres
 have C4 := fun (w : World) (h : HasM w (.slice xq m.qs.length yq) (.slice xa m.ans.length ya) (.slice xb m.aus.length yb) (.slice xm m.more.length ym) (.slice xp m.pres.length yp) (.slice xu m.ups.length yu) m) => listOkWant_has h.ups
 generalize rrsOk m.ans = G0 at *
 generalize rrsOk m.aus = G1 at *
 generalize rrsOk m.more = G2 at *
 generalize wntsOk m.pres = G3 at *
 generalize wntsOk m.ups = G4 at *
 replace C0 := hide C0
 replace C1 := hide C1
 replace C2 := hide C2
 replace C3 := hide C3
 replace C4 := hide C4
 clear h
 obtain ⟨d0, d1, d2, d3, d4, d5, d6, d7, d8, d9, d10⟩ := cells11 (unhide KK)
 go_enter Tryz.func113, Tryz.ntmps113
 go_wp2_with fail
 clear d0 d1 d2 d3 d4 d5 d6 d7 d8 d9 d10
 generalize w.alloc (.cells #[.int .i64 m.id, .bool m.reply, .int .i64 m.op, .bool m.auth, .int .i64 m.code, .slice xq m.qs.length yq, .slice xa m.ans.length ya, .slice xb m.aus.length yb, .slice xm m.more.length ym, .slice xp m.pres.length yp, .slice xu m.ups.length yu] 37) = W at *
 refine (unhide C0 _ (unhide H)).mono ?_
 rintro e w0 ⟨rfl, b0⟩
 replace b0' := below_next b0' b0
 replace H := hide ((unhide H).below b0)
 replace KK := hide (block_kept b0 (unhide KK))
 clear b0
 cases G0 with
 | false =>
  go_wp2_with fail
  go_ret
  exact ⟨rfl, b0'⟩
 | true =>
  obtain ⟨d0, d1, d2, d3, d4, d5, d6, d7, d8, d9, d10⟩ := cells11 (unhide KK)
  go_wp2_with fail
  clear d0 d1 d2 d3 d4 d5 d6 d7 d8 d9 d10
  refine (unhide C1 _ (unhide H)).mono ?_
  rintro e w1 ⟨rfl, b1⟩
  replace b0' := below_next b0' b1
  replace H := hide ((unhide H).below b1)
  replace KK := hide (block_kept b1 (unhide KK))
  clear b1
  cases G1 with
  | false =>
   go_wp2_with fail
   go_ret
   exact ⟨rfl, b0'⟩
  | true =>
   obtain ⟨d0, d1, d2, d3, d4, d5, d6, d7, d8, d9, d10⟩ := cells11 (unhide KK)
   go_wp2_with fail
   clear d0 d1 d2 d3 d4 d5 d6 d7 d8 d9 d10
   refine (unhide C2 _ (unhide H)).mono ?_
   rintro e w2 ⟨rfl, b2⟩
   replace b0' := below_next b0' b2
   replace H := hide ((unhide H).below b2)
   replace KK := hide (block_kept b2 (unhide KK))
   clear b2
   cases G2 with
   | false =>
    go_wp2_with fail
    go_ret
    exact ⟨rfl, b0'⟩
   | true =>
    obtain ⟨d0, d1, d2, d3, d4, d5, d6, d7, d8, d9, d10⟩ := cells11 (unhide KK)
    go_wp2_with fail
    clear d0 d1 d2 d3 d4 d5 d6 d7 d8 d9 d10
    refine (unhide C3 _ (unhide H)).mono ?_
    rintro e w3 ⟨rfl, b3⟩
    replace b0' := below_next b0' b3
    replace H := hide ((unhide H).below b3)
    replace KK := hide (block_kept b3 (unhide KK))
    clear b3
    cases G3 with
    | false =>
     go_wp2_with fail
     go_ret
     exact ⟨rfl, b0'⟩
    | true =>
     obtain ⟨d0, d1, d2, d3, d4, d5, d6, d7, d8, d9, d10⟩ := cells11 (unhide KK)
     go_wp2_with fail
     clear d0 d1 d2 d3 d4 d5 d6 d7 d8 d9 d10
     refine (unhide C4 _ (unhide H)).mono ?_
     rintro e w4 ⟨rfl, b4⟩
     replace b0' := below_next b0' b4
     replace H := hide ((unhide H).below b4)
     replace KK := hide (block_kept b4 (unhide KK))
     clear b4
     go_wp2_with fail
     go_ret
     exact ⟨rfl, b0'⟩

set_option maxHeartbeats 1000000 in
set_option maxRecDepth 100000 in
theorem partsOk_has {vq va vb vm vp vu : Value} {m : Mg} {w : World} (h : HasM w vq va vb vm vp vu m) :
  Calls Tryz.prog 104 #[.agg #[.int .i64 m.id, .bool m.reply, .int .i64 m.op, .bool m.auth, .int .i64 m.code, vq, va, vb, vm, vp, vu]] w fun e w' => e = .returned (.bool (mayM m)) ∧ Below w.heap.size w w' := by
 obtain ⟨xq, yq, rfl, _, zq⟩ := h.qs.form
 obtain ⟨xa, ya, rfl, _, za⟩ := h.ans.form
 obtain ⟨xb, yb, rfl, _, zb⟩ := h.aus.form
 obtain ⟨xm, ym, rfl, _, zm⟩ := h.more.form
 obtain ⟨xp, yp, rfl, _, zp⟩ := h.pres.form
 obtain ⟨xu, yu, rfl, _, zu⟩ := h.ups.form
 have b0' := below_alloc (w := w) (.cells #[.int .i64 m.id, .bool m.reply, .int .i64 m.op, .bool m.auth, .int .i64 m.code, .slice xq m.qs.length yq, .slice xa m.ans.length ya, .slice xb m.aus.length yb, .slice xm m.more.length ym, .slice xp m.pres.length yp, .slice xu m.ups.length yu] 37)
 have KK := hide (heap_alloc_new w (.cells #[.int .i64 m.id, .bool m.reply, .int .i64 m.op, .bool m.auth, .int .i64 m.code, .slice xq m.qs.length yq, .slice xa m.ans.length ya, .slice xb m.aus.length yb, .slice xm m.more.length ym, .slice xp m.pres.length yp, .slice xu m.ups.length yu] 37))
 have H := hide (h.below b0')
 unfold mayM
 have C0 := fun (w : World) (h : HasM w (.slice xq m.qs.length yq) (.slice xa m.ans.length ya) (.slice xb m.aus.length yb) (.slice xm m.more.length ym) (.slice xp m.pres.length yp) (.slice xu m.ups.length yu) m) => upTo_any m.id 65535 w
 have C1 := fun (w : World) (h : HasM w (.slice xq m.qs.length yq) (.slice xa m.ans.length ya) (.slice xb m.aus.length yb) (.slice xm m.more.length ym) (.slice xp m.pres.length yp) (.slice xu m.ups.length yu) m) => codeOk_any m.code w
 have C2 := fun (w : World) (h : HasM w (.slice xq m.qs.length yq) (.slice xa m.ans.length ya) (.slice xb m.aus.length yb) (.slice xm m.more.length ym) (.slice xp m.pres.length yp) (.slice xu m.ups.length yu) m) => questionsOk_has h.qs
 have C3 := fun (w : World) (h : HasM w (.slice xq m.qs.length yq) (.slice xa m.ans.length ya) (.slice xb m.aus.length yb) (.slice xm m.more.length ym) (.slice xp m.pres.length yp) (.slice xu m.ups.length yu) m) => fun (q : queOk m.qs = true) => opOk_has h (queOk_one q)
 have C4 := fun (w : World) (h : HasM w (.slice xq m.qs.length yq) (.slice xa m.ans.length ya) (.slice xb m.aus.length yb) (.slice xm m.more.length ym) (.slice xp m.pres.length yp) (.slice xu m.ups.length yu) m) => listsOk_has h
 generalize decide (0 ≤ m.id ∧ m.id ≤ 65535) = G0 at *
 generalize decide (0 ≤ m.code ∧ m.code ≤ 10) = G1 at *
 generalize queOk m.qs = G2 at *
 generalize opOk m = G3 at *
 generalize listsOk m = G4 at *
 replace C0 := hide C0
 replace C1 := hide C1
 replace C2 := hide C2
 replace C3 := hide C3
 replace C4 := hide C4
 clear h
 obtain ⟨d0, d1, d2, d3, d4, d5, d6, d7, d8, d9, d10⟩ := cells11 (unhide KK)
 go_enter Tryz.func104, Tryz.ntmps104
 go_wp2_with fail
 clear d0 d1 d2 d3 d4 d5 d6 d7 d8 d9 d10
 generalize w.alloc (.cells #[.int .i64 m.id, .bool m.reply, .int .i64 m.op, .bool m.auth, .int .i64 m.code, .slice xq m.qs.length yq, .slice xa m.ans.length ya, .slice xb m.aus.length yb, .slice xm m.more.length ym, .slice xp m.pres.length yp, .slice xu m.ups.length yu] 37) = W at *
 refine (unhide C0 _ (unhide H)).mono ?_
 rintro e w0 ⟨rfl, rfl⟩
 cases G0 with
 | false =>
  go_wp2_with fail
  go_ret
  exact ⟨rfl, b0'⟩
 | true =>
  obtain ⟨d0, d1, d2, d3, d4, d5, d6, d7, d8, d9, d10⟩ := cells11 (unhide KK)
  go_wp2_with fail
  clear d0 d1 d2 d3 d4 d5 d6 d7 d8 d9 d10
  refine (unhide C1 _ (unhide H)).mono ?_
  rintro e w1 ⟨rfl, rfl⟩
  cases G1 with
  | false =>
   go_wp2_with fail
   go_ret
   exact ⟨rfl, b0'⟩
  | true =>
   obtain ⟨d0, d1, d2, d3, d4, d5, d6, d7, d8, d9, d10⟩ := cells11 (unhide KK)
   go_wp2_with fail
   clear d0 d1 d2 d3 d4 d5 d6 d7 d8 d9 d10
   refine (unhide C2 _ (unhide H)).mono ?_
   rintro e w2 ⟨rfl, b2⟩
   replace b0' := below_next b0' b2
   replace H := hide ((unhide H).below b2)
   replace KK := hide (block_kept b2 (unhide KK))
   clear b2
   cases G2 with
   | false =>
    go_wp2_with fail
    go_ret
    exact ⟨rfl, b0'⟩
   | true =>
    obtain ⟨d0, d1, d2, d3, d4, d5, d6, d7, d8, d9, d10⟩ := cells11 (unhide KK)
    go_wp2_with fail
    clear d0 d1 d2 d3 d4 d5 d6 d7 d8 d9 d10
    refine (unhide C3 _ (unhide H) (by trivial)).mono ?_
    rintro e w3 ⟨rfl, b3⟩
    replace b0' := below_next b0' b3
    replace H := hide ((unhide H).below b3)
    replace KK := hide (block_kept b3 (unhide KK))
    clear b3
    cases G3 with
    | false =>
     go_wp2_with fail
     go_ret
     exact ⟨rfl, b0'⟩
    | true =>
     obtain ⟨d0, d1, d2, d3, d4, d5, d6, d7, d8, d9, d10⟩ := cells11 (unhide KK)
     go_wp2_with fail
     clear d0 d1 d2 d3 d4 d5 d6 d7 d8 d9 d10
     refine (unhide C4 _ (unhide H)).mono ?_
     rintro e w4 ⟨rfl, b4⟩
     replace b0' := below_next b0' b4
     replace H := hide ((unhide H).below b4)
     replace KK := hide (block_kept b4 (unhide KK))
     clear b4
     go_wp2_with fail
     go_ret
     exact ⟨rfl, b0'⟩
end Go.Proofs.YtfbfakdkemlbmaaGreat

namespace Go.Proofs.YtfbfakdkemlbmaaGreat
open Go.RowKit
set_option linter.unusedVariables false

set_option maxHeartbeats 800000 in
set_option maxRecDepth 100000 in
theorem appendCounted_own {B : Nat} {v u : Value} {l t : List Int} {w : World} (h : Own B 5 w v l) (hu : HasAt B w u t) (hl : l.length ≤ 1099511627000) (ht : t.length ≤ 255) (hB : B ≤ w.heap.size) :
  Calls Tryz.prog 125 #[v, u] w fun e w' => ∃ v', e = .returned v' ∧ Own B 5 w' v' (l ++ ((t.length : Int) :: t)) ∧ Below B w w' := by
 obtain ⟨ua, uc, rfl, _⟩ := hu.form
 have HU := hide hu
 clear hu
 have hlt : ((t.length : Int) % 256) = t.length := by omega
 generalize hn : t.length = m at *
 have HN := hide hn
 clear hn
 go_enter Tryz.func125, Tryz.ntmps125
 go_wp2_with (at_builtin; refine append_bytes rfl _ _ 27 5 rfl Tryz.underlying27 info_u8 B v _ l [(m : Int)] rfl rfl (h.alloc _) (own_lit w 0 5 [(m : Int)] (Nat.zero_le _) (by simp [maxLen])).reads (by simp; omega) (by simp; omega) ?_)
 intro v2 w2 o2 g2
 have b2 : Below B w w2 := ((Below.refl _ _).alloc hB _).grown g2 (by simp; omega) (fun q hq => (h.lt q hq).1)
 clear g2
 have hs2 := b2.size
 have U2 := hide ((unhide HU).low b2 (Nat.le_refl _))
 go_wp2_with (at_builtin; refine append_bytes rfl _ _ 27 5 rfl Tryz.underlying27 info_u8 B v2 (.slice ua m uc) (l ++ [(m : Int)]) t rfl rfl o2 (unhide U2).has.reads (by simp; rw [unhide HN]; omega) (by omega) ?_)
 intro v3 w3 o3 g3
 have b3 : Below B w w3 := b2.grown g3 (by omega) (fun q hq => (o2.lt q hq).1)
 go_wp2
 go_ret
 exact ⟨v3, rfl, by simpa using o3, b3⟩
end Go.Proofs.YtfbfakdkemlbmaaGreat

namespace Go.Proofs.YtfbfakdkemlbmaaGreat
open Go.RowKit
set_option linter.unusedVariables false

set_option maxHeartbeats 400000 in
set_option maxRecDepth 100000 in
theorem copyBytes_reads {v : Value} {l : List Int} {w : World} (h : Reads w v l) (hl : l.length ≤ 2097152) :
  Calls Tryz.prog 124 #[v] w fun e w' => ∃ v', e = .returned v' ∧ Own w.heap.size 5 w' v' l ∧ Below w.heap.size w w' := by
 go_enter Tryz.func124, Tryz.ntmps124
 go_wp2_with (at_builtin; refine append_bytes rfl _ _ 27 5 rfl Tryz.underlying27 info_u8 w.heap.size (.slice none 0 0) v [] l rfl rfl (World.ownsRow_nil _ _ _ _) h ?c1 (Nat.le_refl _) ?_)
 case c1 => simp; omega
 intro v' w1 hown hgrow
 go_wp2
 go_ret
 exact ⟨v', rfl, hown, below_of_grown hgrow⟩

theorem copyBytes_own {B : Nat} {v : Value} {l : List Int} {w : World} (h : Own B 5 w v l) (hl : l.length ≤ 2097152) :
  Calls Tryz.prog 124 #[v] w fun e w' => ∃ v', e = .returned v' ∧ Own w.heap.size 5 w' v' l ∧ Below w.heap.size w w' := copyBytes_reads h.reads hl
end Go.Proofs.YtfbfakdkemlbmaaGreat

namespace Go.Proofs.YtfbfakdkemlbmaaGreat
open Go.RowKit
set_option linter.unusedVariables false

set_option maxHeartbeats 1000000 in
set_option maxRecDepth 100000 in
theorem implNamePut_has {vb v : Value} {l : List Int} {n : List (List Int)} {w : World} (hvb : Has w vb l) (hl : l.length ≤ 1048576) (h : HasL w v n) :
  Calls Tryz.prog 114 #[vb, .agg #[v]] w fun e w' => ∃ v', e = .returned (.tuple #[v', .bool (nameOk n)]) ∧ Own w.heap.size 5 w' v' (namePut l n) ∧ Below w.heap.size w w' := by
 obtain ⟨a, cap, rfl, hcl, hm⟩ := h.form
 unfold maxLen at hm
 have b0 := below_alloc (w := w) (.cells #[.slice a n.length cap] 100)
 have k0 := heap_alloc_new w (.cells #[.slice a n.length cap] 100)
 have h0 := hide (h.below b0)
 have v0 := hide (hvb.below b0)
 clear h hvb
 cases hok : nameOk n with
 | false =>
  rw [namePut_no hok]
  have HOK := hide hok
  clear hok
  go_enter Tryz.func114, Tryz.ntmps114
  go_wp2_with fail
  generalize w.alloc (.cells #[.slice a n.length cap] 100) = W0 at *
  refine (implNameOk_has (unhide h0)).mono ?_
  rw [unhide HOK]
  rintro e w1 ⟨rfl, b1⟩
  have bb1 := below_next b0 b1
  clear b0 k0 h0 b1
  go_wp2_with fail
  go_ret2
  exact ⟨_, rfl, World.ownsRow_nil _ _ _ _, bb1⟩
 | true =>
  have HOK := hide hok
  have hdl := wires_length n hok
  have h6 := (nameOk_parts hok).1
  have HDS := hide (wires_succ n)
  have HD0 := hide (wires_zero n)
  have HLEN := hide (show ∀ k, k < n.length → (n.getD k []).length ≤ 15 from fun k hk => (labelOk_length ((nameOk_parts hok).2 k hk)).2)
  rw [namePut_yes hok]
  unfold wire
  clear hok
  have HDL := hide hdl
  clear hdl
  generalize wires n = D at *
  go_enter Tryz.func114, Tryz.ntmps114
  go_wp2_with fail
  generalize w.alloc (.cells #[.slice a n.length cap] 100) = W0 at *
  refine (implNameOk_has (unhide h0)).mono ?_
  rw [unhide HOK]
  rintro e w1 ⟨rfl, b1⟩
  have k1 := block_kept b1 k0
  have h1 := hide ((unhide h0).below b1)
  have v1 := hide ((unhide v0).below b1)
  have bb1 := below_next b0 b1
  have z1 := block_lt k1
  clear b0 k0 h0 b1 v0
  go_wp2_with fail
  refine (copyBytes_reads (unhide v1).reads (by omega)).mono ?_
  rintro e w2 ⟨v2, rfl, o2, b2⟩
  have k2 := block_kept b2 k1
  have c2 := block_one k2
  have H1 := hide (unhide h1).at
  have z2 := b2.size
  generalize hn : n.length = m at *
  have HN := hide hn
  clear hn
  have K2 := hide k2
  clear k2 k1 h1 v1
  go_wp2
  go_loopw [6, 17] (fun o i wr => ∃ k : Nat, k ≤ m ∧ i = .int .i64 k ∧ Own w1.heap.size 5 wr o (l ++ D k) ∧ Below w1.heap.size w1 wr) (fun _ i _ => m - (intOf i).toNat)
  case atStart => exact ⟨0, Nat.zero_le _, rfl, by rw [unhide HD0, List.append_nil]; exact o2, b2⟩
  case round =>
   obtain ⟨k, hk, rfl, ho, hb⟩ := hrel
   have zb := hb.size
   have hdk := unhide HDL k
   have hdk2 : (l ++ D k).length ≤ 1048576 + 96 := by rw [List.length_append]; omega
   by_cases hlt : k < m
   ·obtain ⟨b, off, u, rfl, hbl, hc, hu⟩ := ((unhide H1).low hb (Nat.le_refl _)).here (k := k) (by rw [unhide HN]; exact hlt)
    have hds := hide (unhide HDS k hlt)
    have hlk := unhide HLEN k hlt
    generalize n.getD k [] = lab at *
    have HU := hide hu
    obtain ⟨ua, uc, rfl, _⟩ := hu.form
    clear hu
    go_wp2_with fail
    refine (appendCounted_own ho (unhide HU) (by omega) (by omega) zb).mono ?_
    rintro e w3 ⟨v3, rfl, o3, b3⟩
    go_wp2_with fail
    exact ⟨⟨k + 1, by omega, by go_num, by rw [unhide hds, ← List.append_assoc]; exact o3, hb.trans b3⟩, by simp [intOf]; omega⟩
   ·obtain rfl : k = m := by omega
    go_wp2_with (at_builtin; refine append_bytes rfl _ _ 27 5 rfl Tryz.underlying27 info_u8 w1.heap.size _ _ (l ++ D k) [0] rfl rfl (ho.alloc _) (own_lit wr 0 5 [0] (Nat.zero_le _) (by simp [maxLen])).reads (by simp only [List.length_cons, List.length_nil]; omega) (by simp; omega) ?_)
    intro v4 w4 o4 g4
    have b4 : Below w1.heap.size w1 w4 := (hb.alloc zb _).grown g4 (by simp; omega) (fun q hq => (ho.lt q hq).1)
    go_wp2_with fail
    go_ret2
    exact ⟨v4, rfl, by rw [unhide HN]; simpa only [List.append_assoc] using o4.mono (Nat.le_of_lt z1), below_next bb1 b4⟩
end Go.Proofs.YtfbfakdkemlbmaaGreat

namespace Go.Proofs.YtfbfakdkemlbmaaGreat
open Go.RowKit
set_option linter.unusedVariables false

set_option maxHeartbeats 800000 in
set_option maxRecDepth 100000 in
theorem implPut32_yes {B : Nat} {v : Value} {l : List Int} (n : Int) {w : World} (h : Own B 5 w v l) (hl : l.length ≤ 1048576) (h0 : 0 ≤ n) (h1 : n ≤ 4294967295) :
  Calls Tryz.prog 134 #[v, .int .i64 n] w fun e w' => ∃ v', e = .returned v' ∧ Own w.heap.size 5 w' v' (l ++ [n / 16777216, n / 65536 % 256, n / 256 % 256, n % 256]) ∧ Below w.heap.size w w' := by
 go_enter Tryz.func134, Tryz.ntmps134
 go_wp2_with fail
 refine (upTo_yes _ h0 h1).mono ?_
 rintro e w0 ⟨rfl, rfl⟩
 go_wp2_with fail
 refine (copyBytes_own h (by omega)).mono ?_
 rintro e w1 ⟨v1, rfl, o1, b1⟩
 have hsz := b1.size
 go_wp2_with (at_builtin; refine append_bytes rfl _ _ 27 5 rfl Tryz.underlying27 info_u8 w.heap.size v1 _ l [n / 16777216, n / 65536 % 256, n / 256 % 256, n % 256] rfl rfl (o1.alloc _) (own_put32 w1 0 5 n (Nat.zero_le _)).reads (by simp; omega) (by simp; omega) ?_)
 intro v' w2 hown hgrow
 go_wp2
 go_ret
 exact ⟨v', rfl, hown, (b1.alloc hsz _).grown hgrow (by simp; omega) (fun k hk => (o1.lt k hk).1)⟩

set_option maxHeartbeats 400000 in
set_option maxRecDepth 100000 in
theorem implPut32_no {B : Nat} {v : Value} {l : List Int} (n : Int) {w : World} (h : Own B 5 w v l) (hl : l.length ≤ 1048576) (hn : n < 0 ∨ 4294967295 < n) :
  Calls Tryz.prog 134 #[v, .int .i64 n] w fun e w' => ∃ v', e = .returned v' ∧ Own w.heap.size 5 w' v' l ∧ Below w.heap.size w w' := by
 go_enter Tryz.func134, Tryz.ntmps134
 go_wp2_with fail
 refine (upTo_no _ hn).mono ?_
 rintro e w0 ⟨rfl, rfl⟩
 go_wp2_with fail
 refine (copyBytes_own h (by omega)).mono ?_
 rintro e w1 ⟨v1, rfl, o1, b1⟩
 go_wp2
 go_ret
 exact ⟨v1, rfl, o1, b1⟩

theorem implPut32_any {B : Nat} {v : Value} {l : List Int} (n : Int) {w : World} (h : Own B 5 w v l) (hl : l.length ≤ 1048576) :
  Calls Tryz.prog 134 #[v, .int .i64 n] w fun e w' => ∃ v', e = .returned v' ∧ Own w.heap.size 5 w' v' (put32 l n) ∧ Below w.heap.size w w' := by
 by_cases hn : 0 ≤ n ∧ n ≤ 4294967295
 ·have e : put32 l n = l ++ [n / 16777216, n / 65536 % 256, n / 256 % 256, n % 256] := by unfold put32; rw [if_pos hn]
  rw [e]; exact implPut32_yes n h hl hn.1 hn.2
 ·have e : put32 l n = l := by unfold put32; rw [if_neg hn]
  rw [e]; exact implPut32_no n h hl (by omega)
end Go.Proofs.YtfbfakdkemlbmaaGreat

namespace Go.Proofs.YtfbfakdkemlbmaaGreat
open Go.RowKit
set_option linter.unusedVariables false

theorem own_none (B : Nat) (e : TypeId) (w : World) : Own B e w (.slice none 0 0) [] := World.ownsRow_nil _ _ _ _

set_option maxHeartbeats 400000 in
set_option maxRecDepth 100000 in
theorem addrPut_any (a : Int) (w : World) : Calls Tryz.prog 157 #[.agg #[.int .i64 a]] w fun e w' => ∃ v', e = .returned v' ∧ Own w.heap.size 5 w' v' (put32 [] a) ∧ Below w.heap.size w w' := by
 have b0 := below_alloc (w := w) (.cells #[.int .i64 a] 170)
 have hP := hide (implPut32_any (B := 0) a (own_none 0 5 (w.alloc (.cells #[.int .i64 a] 170))) (by simp))
 generalize put32 [] a = G at *
 go_enter Tryz.func157, Tryz.ntmps157
 go_wp2_with fail
 refine (unhide hP).mono ?_
 rintro e w1 ⟨v1, rfl, o1, b1⟩
 go_wp2_with fail
 go_ret
 exact ⟨v1, rfl, o1.mono b0.size, below_next b0 b1⟩

set_option maxHeartbeats 400000 in
set_option maxRecDepth 100000 in
theorem namePutM_has {a : Option Addr} {cap : Nat} {n : List (List Int)} {w : World} (h : HasL w (.slice a n.length cap) n) (hok : nameOk n = true) : Calls Tryz.prog 161 #[.agg #[.slice a n.length cap]] w fun e w' => ∃ v', e = .returned v' ∧ Own w.heap.size 5 w' v' (wire n) ∧ Below w.heap.size w w' := by
 have b0 := below_alloc (w := w) (.cells #[.slice a n.length cap] 172)
 have hP := implNamePut_has (vb := .slice none 0 0) (l := []) (.inl ⟨rfl, rfl⟩) (by simp) (h.below b0)
 rw [namePut_yes hok, List.nil_append, hok] at hP
 have HP := hide hP
 clear hP h
 generalize wire n = G at *
 go_enter Tryz.func161, Tryz.ntmps161
 go_wp2_with fail
 refine (unhide HP).mono ?_
 rintro e w1 ⟨v1, rfl, o1, b1⟩
 go_wp2_with fail
 go_ret
 exact ⟨v1, rfl, o1.mono b0.size, below_next b0 b1⟩

set_option maxHeartbeats 400000 in
set_option maxRecDepth 100000 in
theorem textPut_has {a : Option Addr} {cap : Nat} {l : List Int} {w : World} (h : Has w (.slice a l.length cap) l) (hl : l.length ≤ 40) : Calls Tryz.prog 169 #[.agg #[.slice a l.length cap]] w fun e w' => ∃ v', e = .returned v' ∧ Own w.heap.size 5 w' v' ((l.length : Int) :: l) ∧ Below w.heap.size w w' := by
 have b0 := below_alloc (w := w) (.cells #[.slice a l.length cap] 176)
 have hP := appendCounted_own (B := (w.alloc (.cells #[.slice a l.length cap] 176)).heap.size) (own_none _ 5 (w.alloc (.cells #[.slice a l.length cap] 176))) (h.below b0).at (by simp) (by omega) (Nat.le_refl _)
 rw [List.nil_append] at hP
 have HP := hide hP
 clear hP h
 generalize hG : (l.length : Int) :: l = G at *
 clear hG
 go_enter Tryz.func169, Tryz.ntmps169
 go_wp2_with fail
 refine (unhide HP).mono ?_
 rintro e w1 ⟨v1, rfl, o1, b1⟩
 go_wp2_with fail
 go_ret
 exact ⟨v1, rfl, o1.mono b0.size, below_next b0 b1⟩

set_option maxHeartbeats 1000000 in
set_option maxRecDepth 100000 in
theorem soaPut_has {a : Option Addr} {cap : Nat} {n : List (List Int)} {ia : Option Addr} {ic : Nat} {x y : Int} {w : World} (h : HasL w (.slice a n.length cap) n) (hi : HasI w (.slice ia 2 ic) [x, y]) (hok : nameOk n = true) :
  Calls Tryz.prog 165 #[.agg #[.slice a n.length cap, .slice ia 2 ic]] w fun e w' => ∃ v', e = .returned v' ∧ Own w.heap.size 5 w' v' (put32 (put32 (wire n) x) y) ∧ Below w.heap.size w w' := by
 have b0 := below_alloc (w := w) (.cells #[.slice a n.length cap, .slice ia 2 ic] 174)
 have k0 := heap_alloc_new w (.cells #[.slice a n.length cap, .slice ia 2 ic] 174)
 have hP := implNamePut_has (vb := .slice none 0 0) (l := []) (.inl ⟨rfl, rfl⟩) (by simp) (h.below b0)
 rw [namePut_yes hok, List.nil_append, hok] at hP
 have HP := hide hP
 have I0 := hide (hi.below b0)
 have hw := wire_length n hok
 have hw2 := put32_length (wire n) x
 have hQ := hide (show ∀ (w1 : World) (B : Nat) (v : Value), Own B 5 w1 v (wire n) → Calls Tryz.prog 134 #[v, .int .i64 x] w1 fun e w' => ∃ v', e = .returned v' ∧ Own w1.heap.size 5 w' v' (put32 (wire n) x) ∧ Below w1.heap.size w1 w' from fun w1 B v ho => implPut32_any x ho (by omega))
 have hR := hide (show ∀ (w1 : World) (B : Nat) (v : Value), Own B 5 w1 v (put32 (wire n) x) → Calls Tryz.prog 134 #[v, .int .i64 y] w1 fun e w' => ∃ v', e = .returned v' ∧ Own w1.heap.size 5 w' v' (put32 (put32 (wire n) x) y) ∧ Below w1.heap.size w1 w' from fun w1 B v ho => implPut32_any y ho (by omega))
 clear h hi hP hw hw2
 generalize put32 (put32 (wire n) x) y = G3 at *
 generalize put32 (wire n) x = G2 at *
 generalize wire n = G1 at *
 go_enter Tryz.func165, Tryz.ntmps165
 go_wp2_with fail
 generalize w.alloc (.cells #[.slice a n.length cap, .slice ia 2 ic] 174) = W at *
 refine (unhide HP).mono ?_
 rintro e w1 ⟨v1, rfl, o1, b1⟩
 have bb1 := below_next b0 b1
 have k1 := block_kept b1 k0
 have c1 := block_cell k1 1
 simp only [List.getElem?_toArray, List.getElem?_cons_zero, List.getElem?_cons_succ] at c1
 have I1 := hide ((unhide I0).below b1)
 have z1 := b1.size
 have z0 := b0.size
 clear k0 b1 I0 k1
 go_wp2
 go_loopw [3, 16] (fun o i wr => ∃ k : Nat, k ≤ 2 ∧ i = .int .i64 k ∧ Own w.heap.size 5 wr o (if k = 0 then G1 else if k = 1 then G2 else G3) ∧ Below w1.heap.size w1 wr) (fun _ i _ => 2 - (intOf i).toNat)
 case atStart => exact ⟨0, by omega, rfl, o1.mono z0, Below.refl _ _⟩
 case round =>
  obtain ⟨k, hk, rfl, ho, hb⟩ := hrel
  obtain ⟨g, off, cp, hv, hg, n0, n1⟩ := ((unhide I1).below hb).two
  simp only [Value.slice.injEq] at hv
  obtain ⟨rfl, _, rfl⟩ := hv
  have zb := hb.size
  by_cases e0 : k = 0
  ·subst e0
   go_wp2_with fail
   refine (unhide hQ _ _ _ ho).mono ?_
   rintro e w2 ⟨v2, rfl, o2, b2⟩
   go_wp2_with fail
   exact ⟨⟨1, by omega, by go_num, o2.mono (by omega), below_next hb b2⟩, by simp [intOf]⟩
  by_cases e1 : k = 1
  ·subst e1
   go_wp2_with fail
   refine (unhide hR _ _ _ ho).mono ?_
   rintro e w2 ⟨v2, rfl, o2, b2⟩
   go_wp2_with fail
   exact ⟨⟨2, by omega, by go_num, o2.mono (by omega), below_next hb b2⟩, by simp [intOf]⟩
  ·obtain rfl : k = 2 := by omega
   go_wp2_with fail
   go_ret
   exact ⟨_, rfl, ho, below_next bb1 hb⟩
end Go.Proofs.YtfbfakdkemlbmaaGreat
