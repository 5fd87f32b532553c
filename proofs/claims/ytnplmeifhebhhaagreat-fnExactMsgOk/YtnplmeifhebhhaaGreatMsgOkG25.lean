/-
  Contracts of the program's listsOk and partsOk. Contracts of the program's appendCounted: behind a row of the caller's own a byte with how many bytes a text has, and the text. Contracts of the program's copyBytes: new memory with the same bytes. Contracts of the program's NamePut.
-/
import Derived.Test.YtnplmeifhebhhaaGreatMsgOkG24
import Derived.Test.YtnplmeifhebhhaaGreatMsgOkG08
import Derived.Test.YtnplmeifhebhhaaGreatMsgOkG03
import Derived.Test.YtnplmeifhebhhaaGreatMsgOkG19
namespace Go.Proofs.YtnplmeifhebhhaaGreat
open Go.RowKit
set_option linter.unusedVariables false

theorem queOk_one {l : List Que} (h : queOk l = true) : l.length = 1 := by
 unfold queOk at h
 simp only [Bool.and_eq_true, decide_eq_true_eq] at h
 exact h.1

set_option maxHeartbeats 1000000 in
set_option maxRecDepth 100000 in
theorem listsOk_has {vq va vb vm vp vu : Value} {m : Mg} {w : World} (h : HasM w vq va vb vm vp vu m) :
  Calls Tryz.prog 85 #[.agg #[.int .i64 m.id, .bool m.reply, .int .i64 m.op, .bool m.auth, .int .i64 m.code, vq, va, vb, vm, vp, vu]] w fun e w' => e = .returned (.bool (listsOk m)) ∧ Below w.heap.size w w' := by
 obtain ⟨xq, yq, rfl, _, zq⟩ := h.qs.form
 obtain ⟨xa, ya, rfl, _, za⟩ := h.ans.form
 obtain ⟨xb, yb, rfl, _, zb⟩ := h.aus.form
 obtain ⟨xm, ym, rfl, _, zm⟩ := h.more.form
 obtain ⟨xp, yp, rfl, _, zp⟩ := h.pres.form
 obtain ⟨xu, yu, rfl, _, zu⟩ := h.ups.form
 have b0' := below_alloc (w := w) (.cells #[.int .i64 m.id, .bool m.reply, .int .i64 m.op, .bool m.auth, .int .i64 m.code, .slice xq m.qs.length yq, .slice xa m.ans.length ya, .slice xb m.aus.length yb, .slice xm m.more.length ym, .slice xp m.pres.length yp, .slice xu m.ups.length yu] 33)
 have KK := hide (heap_alloc_new w (.cells #[.int .i64 m.id, .bool m.reply, .int .i64 m.op, .bool m.auth, .int .i64 m.code, .slice xq m.qs.length yq, .slice xa m.ans.length ya, .slice xb m.aus.length yb, .slice xm m.more.length ym, .slice xp m.pres.length yp, .slice xu m.ups.length yu] 33))
 have H := hide (h.below b0')
 unfold listsOk
 have C0 := fun (w : World) (h : HasM w (.slice xq m.qs.length yq) (.slice xa m.ans.length ya) (.slice xb m.aus.length yb) (.slice xm m.more.length ym) (.slice xp m.pres.length yp) (.slice xu m.ups.length yu) m) => listOkRr_has h.ans
 have C1 := fun (w : World) (h : HasM w (.slice xq m.qs.length yq) (.slice xa m.ans.length ya) (.slice xb m.aus.length yb) (.slice xm m.more.length ym) (.slice xp m.pres.length yp) (.slice xu m.ups.length yu) m) => listOkRr_has h.aus
 have C2 := fun (w : World) (h : HasM w (.slice xq m.qs.length yq) (.slice xa m.ans.length ya) (.slice xb m.aus.length yb) (.slice xm m.more.length ym) (.slice xp m.pres.length yp) (.slice xu m.ups.length yu) m) => listOkRr_has h.more
 have C3 := fun (w : World) (h : HasM w (.slice xq m.qs.length yq) (.slice xa m.ans.length ya) (.slice xb m.aus.length yb) (.slice xm m.more.length ym) (.slice xp m.pres.length yp) (.slice xu m.ups.length yu) m) => listOkWant_has h.pres
 have C4 := fun (w : World) (h : HasM w (.slice xq m.qs.length yq) (.slice xa m.ans.length ya) (.slice xb m.aus.length yb) (.slice xm m.more.length ym) (.slice xp m.pres.length yp) (.slice xu m.ups.length yu) m) => listOkWant_has h.ups
 generalize rrsOk m.ans = G0 at *
 generalize rrsOk m.aus = G1 at *
 generalize rrsOk m.more = G2 at *
 generalize wntsOk m.pres = G3 at *
 generalize wntsOk m.ups = G4 at *
 replace C0 := hide C0
 replace C1 := hide C1
 replace C2 := hide C2
 replace C3 := hide C3
 replace C4 := hide C4
 clear h
 obtain ⟨d0, d1, d2, d3, d4, d5, d6, d7, d8, d9, d10⟩ := cells11 (unhide KK)
 go_enter Tryz.func85, Tryz.ntmps85
 go_wp2_with fail
 clear d0 d1 d2 d3 d4 d5 d6 d7 d8 d9 d10
 generalize w.alloc (.cells #[.int .i64 m.id, .bool m.reply, .int .i64 m.op, .bool m.auth, .int .i64 m.code, .slice xq m.qs.length yq, .slice xa m.ans.length ya, .slice xb m.aus.length yb, .slice xm m.more.length ym, .slice xp m.pres.length yp, .slice xu m.ups.length yu] 33) = W at *
 refine (unhide C0 _ (unhide H)).mono ?_
 rintro e w0 ⟨rfl, b0⟩
 replace b0' := below_next b0' b0
 replace H := hide ((unhide H).below b0)
 replace KK := hide (block_kept b0 (unhide KK))
 clear b0
 cases G0 with
 | false =>
  go_wp2_with fail
  go_ret
  exact ⟨rfl, b0'⟩
 | true =>
  obtain ⟨d0, d1, d2, d3, d4, d5, d6, d7, d8, d9, d10⟩ := cells11 (unhide KK)
  go_wp2_with fail
  clear d0 d1 d2 d3 d4 d5 d6 d7 d8 d9 d10
  refine (unhide C1 _ (unhide H)).mono ?_
  rintro e w1 ⟨rfl, b1⟩
  replace b0' := below_next b0' b1
  replace H := hide ((unhide H).below b1)
  replace KK := hide (block_kept b1 (unhide KK))
  clear b1
  cases G1 with
  | false =>
   go_wp2_with fail
   go_ret
   exact ⟨rfl, b0'⟩
  | true =>
   obtain ⟨d0, d1, d2, d3, d4, d5, d6, d7, d8, d9, d10⟩ := cells11 (unhide KK)
   go_wp2_with fail
   clear d0 d1 d2 d3 d4 d5 d6 d7 d8 d9 d10
   refine (unhide C2 _ (unhide H)).mono ?_
   rintro e w2 ⟨rfl, b2⟩
   replace b0' := below_next b0' b2
   replace H := hide ((unhide H).below b2)
   replace KK := hide (block_kept b2 (unhide KK))
   clear b2
   cases G2 with
   | false =>
    go_wp2_with fail
    go_ret
    exact ⟨rfl, b0'⟩
   | true =>
    obtain ⟨d0, d1, d2, d3, d4, d5, d6, d7, d8, d9, d10⟩ := cells11 (unhide KK)
    go_wp2_with fail
    clear d0 d1 d2 d3 d4 d5 d6 d7 d8 d9 d10
    refine (unhide C3 _ (unhide H)).mono ?_
    rintro e w3 ⟨rfl, b3⟩
    replace b0' := below_next b0' b3
    replace H := hide ((unhide H).below b3)
    replace KK := hide (block_kept b3 (unhide KK))
    clear b3
    cases G3 with
    | false =>
     go_wp2_with fail
     go_ret
     exact ⟨rfl, b0'⟩
    | true =>
     obtain ⟨d0, d1, d2, d3, d4, d5, d6, d7, d8, d9, d10⟩ := cells11 (unhide KK)
     go_wp2_with fail
     clear d0 d1 d2 d3 d4 d5 d6 d7 d8 d9 d10
     refine (unhide C4 _ (unhide H)).mono ?_
     rintro e w4 ⟨rfl, b4⟩
     replace b0' := below_next b0' b4
     replace H := hide ((unhide H).below b4)
     replace KK := hide (block_kept b4 (unhide KK))
     clear b4
     go_wp2_with fail
     go_ret
     exact ⟨rfl, b0'⟩

set_option maxHeartbeats 1000000 in
set_option maxRecDepth 100000 in
theorem partsOk_has {vq va vb vm vp vu : Value} {m : Mg} {w : World} (h : HasM w vq va vb vm vp vu m) :
  Calls Tryz.prog 41 #[.agg #[.int .i64 m.id, .bool m.reply, .int .i64 m.op, .bool m.auth, .int .i64 m.code, vq, va, vb, vm, vp, vu]] w fun e w' => e = .returned (.bool (mayM m)) ∧ Below w.heap.size w w' := by
 obtain ⟨xq, yq, rfl, _, zq⟩ := h.qs.form
 obtain ⟨xa, ya, rfl, _, za⟩ := h.ans.form
 obtain ⟨xb, yb, rfl, _, zb⟩ := h.aus.form
 obtain ⟨xm, ym, rfl, _, zm⟩ := h.more.form
 obtain ⟨xp, yp, rfl, _, zp⟩ := h.pres.form
 obtain ⟨xu, yu, rfl, _, zu⟩ := h.ups.form
 have b0' := below_alloc (w := w) (.cells #[.int .i64 m.id, .bool m.reply, .int .i64 m.op, .bool m.auth, .int .i64 m.code, .slice xq m.qs.length yq, .slice xa m.ans.length ya, .slice xb m.aus.length yb, .slice xm m.more.length ym, .slice xp m.pres.length yp, .slice xu m.ups.length yu] 33)
 have KK := hide (heap_alloc_new w (.cells #[.int .i64 m.id, .bool m.reply, .int .i64 m.op, .bool m.auth, .int .i64 m.code, .slice xq m.qs.length yq, .slice xa m.ans.length ya, .slice xb m.aus.length yb, .slice xm m.more.length ym, .slice xp m.pres.length yp, .slice xu m.ups.length yu] 33))
 have H := hide (h.below b0')
 unfold mayM
 have C0 := fun (w : World) (h : HasM w (.slice xq m.qs.length yq) (.slice xa m.ans.length ya) (.slice xb m.aus.length yb) (.slice xm m.more.length ym) (.slice xp m.pres.length yp) (.slice xu m.ups.length yu) m) => upTo_any m.id 65535 w
 have C1 := fun (w : World) (h : HasM w (.slice xq m.qs.length yq) (.slice xa m.ans.length ya) (.slice xb m.aus.length yb) (.slice xm m.more.length ym) (.slice xp m.pres.length yp) (.slice xu m.ups.length yu) m) => codeOk_any m.code w
 have C2 := fun (w : World) (h : HasM w (.slice xq m.qs.length yq) (.slice xa m.ans.length ya) (.slice xb m.aus.length yb) (.slice xm m.more.length ym) (.slice xp m.pres.length yp) (.slice xu m.ups.length yu) m) => questionsOk_has h.qs
 have C3 := fun (w : World) (h : HasM w (.slice xq m.qs.length yq) (.slice xa m.ans.length ya) (.slice xb m.aus.length yb) (.slice xm m.more.length ym) (.slice xp m.pres.length yp) (.slice xu m.ups.length yu) m) => fun (q : queOk m.qs = true) => opOk_has h (queOk_one q)
 have C4 := fun (w : World) (h : HasM w (.slice xq m.qs.length yq) (.slice xa m.ans.length ya) (.slice xb m.aus.length yb) (.slice xm m.more.length ym) (.slice xp m.pres.length yp) (.slice xu m.ups.length yu) m) => listsOk_has h
 generalize decide (0 ≤ m.id ∧ m.id ≤ 65535) = G0 at *
 generalize decide (0 ≤ m.code ∧ m.code ≤ 10) = G1 at *
 generalize queOk m.qs = G2 at *
 generalize opOk m = G3 at *
 generalize listsOk m = G4 at *
 replace C0 := hide C0
 replace C1 := hide C1
 replace C2 := hide C2
 replace C3 := hide C3
 replace C4 := hide C4
 clear h
 obtain ⟨d0, d1, d2, d3, d4, d5, d6, d7, d8, d9, d10⟩ := cells11 (unhide KK)
 go_enter Tryz.func41, Tryz.ntmps41
 go_wp2_with fail
 clear d0 d1 d2 d3 d4 d5 d6 d7 d8 d9 d10
 generalize w.alloc (.cells #[.int .i64 m.id, .bool m.reply, .int .i64 m.op, .bool m.auth, .int .i64 m.code, .slice xq m.qs.length yq, .slice xa m.ans.length ya, .slice xb m.aus.length yb, .slice xm m.more.length ym, .slice xp m.pres.length yp, .slice xu m.ups.length yu] 33) = W at *
 refine (unhide C0 _ (unhide H)).mono ?_
 rintro e w0 ⟨rfl, rfl⟩
 cases G0 with
 | false =>
  go_wp2_with fail
  go_ret
  exact ⟨rfl, b0'⟩
 | true =>
  obtain ⟨d0, d1, d2, d3, d4, d5, d6, d7, d8, d9, d10⟩ := cells11 (unhide KK)
  go_wp2_with fail
  clear d0 d1 d2 d3 d4 d5 d6 d7 d8 d9 d10
  refine (unhide C1 _ (unhide H)).mono ?_
  rintro e w1 ⟨rfl, rfl⟩
  cases G1 with
  | false =>
   go_wp2_with fail
   go_ret
   exact ⟨rfl, b0'⟩
  | true =>
   obtain ⟨d0, d1, d2, d3, d4, d5, d6, d7, d8, d9, d10⟩ := cells11 (unhide KK)
   go_wp2_with fail
   clear d0 d1 d2 d3 d4 d5 d6 d7 d8 d9 d10
   refine (unhide C2 _ (unhide H)).mono ?_
   rintro e w2 ⟨rfl, b2⟩
   replace b0' := below_next b0' b2
   replace H := hide ((unhide H).below b2)
   replace KK := hide (block_kept b2 (unhide KK))
   clear b2
   cases G2 with
   | false =>
    go_wp2_with fail
    go_ret
    exact ⟨rfl, b0'⟩
   | true =>
    obtain ⟨d0, d1, d2, d3, d4, d5, d6, d7, d8, d9, d10⟩ := cells11 (unhide KK)
    go_wp2_with fail
    clear d0 d1 d2 d3 d4 d5 d6 d7 d8 d9 d10
    refine (unhide C3 _ (unhide H) (by trivial)).mono ?_
    rintro e w3 ⟨rfl, b3⟩
    replace b0' := below_next b0' b3
    replace H := hide ((unhide H).below b3)
    replace KK := hide (block_kept b3 (unhide KK))
    clear b3
    cases G3 with
    | false =>
     go_wp2_with fail
     go_ret
     exact ⟨rfl, b0'⟩
    | true =>
     obtain ⟨d0, d1, d2, d3, d4, d5, d6, d7, d8, d9, d10⟩ := cells11 (unhide KK)
     go_wp2_with fail
     clear d0 d1 d2 d3 d4 d5 d6 d7 d8 d9 d10
     refine (unhide C4 _ (unhide H)).mono ?_
     rintro e w4 ⟨rfl, b4⟩
     replace b0' := below_next b0' b4
     replace H := hide ((unhide H).below b4)
     replace KK := hide (block_kept b4 (unhide KK))
     clear b4
     go_wp2_with fail
     go_ret
     exact ⟨rfl, b0'⟩
end Go.Proofs.YtnplmeifhebhhaaGreat

namespace Go.Proofs.YtnplmeifhebhhaaGreat
open Go.RowKit
set_option linter.unusedVariables false

set_option maxHeartbeats 800000 in
set_option maxRecDepth 100000 in
theorem appendCounted_own {B : Nat} {v u : Value} {l t : List Int} {w : World} (h : Own B 5 w v l) (hu : HasAt B w u t) (hl : l.length ≤ 1099511627000) (ht : t.length ≤ 255) (hB : B ≤ w.heap.size) :
  Calls Tryz.prog 116 #[v, u] w fun e w' => ∃ v', e = .returned v' ∧ Own B 5 w' v' (l ++ ((t.length : Int) :: t)) ∧ Below B w w' := by
 obtain ⟨ua, uc, rfl, _⟩ := hu.form
 have HU := hide hu
 clear hu
 have hlt : ((t.length : Int) % 256) = t.length := by omega
 generalize hn : t.length = m at *
 have HN := hide hn
 clear hn
 go_enter Tryz.func116, Tryz.ntmps116
 go_wp2_with (at_builtin; refine append_bytes rfl _ _ 37 5 rfl Tryz.underlying37 info_u8 B v _ l [(m : Int)] rfl rfl (h.alloc _) (own_lit w 0 5 [(m : Int)] (Nat.zero_le _) (by simp [maxLen])).reads (by simp; omega) (by simp; omega) ?_)
 intro v2 w2 o2 g2
 have b2 : Below B w w2 := ((Below.refl _ _).alloc hB _).grown g2 (by simp; omega) (fun q hq => (h.lt q hq).1)
 clear g2
 have hs2 := b2.size
 have U2 := hide ((unhide HU).low b2 (Nat.le_refl _))
 go_wp2_with (at_builtin; refine append_bytes rfl _ _ 37 5 rfl Tryz.underlying37 info_u8 B v2 (.slice ua m uc) (l ++ [(m : Int)]) t rfl rfl o2 (unhide U2).has.reads (by simp; rw [unhide HN]; omega) (by omega) ?_)
 intro v3 w3 o3 g3
 have b3 : Below B w w3 := b2.grown g3 (by omega) (fun q hq => (o2.lt q hq).1)
 go_wp2
 go_ret
 exact ⟨v3, rfl, by simpa using o3, b3⟩
end Go.Proofs.YtnplmeifhebhhaaGreat

namespace Go.Proofs.YtnplmeifhebhhaaGreat
open Go.RowKit
set_option linter.unusedVariables false

set_option maxHeartbeats 400000 in
set_option maxRecDepth 100000 in
theorem copyBytes_reads {v : Value} {l : List Int} {w : World} (h : Reads w v l) (hl : l.length ≤ 2097152) :
  Calls Tryz.prog 115 #[v] w fun e w' => ∃ v', e = .returned v' ∧ Own w.heap.size 5 w' v' l ∧ Below w.heap.size w w' := by
 go_enter Tryz.func115, Tryz.ntmps115
 go_wp2_with (at_builtin; refine append_bytes rfl _ _ 37 5 rfl Tryz.underlying37 info_u8 w.heap.size (.slice none 0 0) v [] l rfl rfl (World.ownsRow_nil _ _ _ _) h ?c1 (Nat.le_refl _) ?_)
 case c1 => simp; omega
 intro v' w1 hown hgrow
 go_wp2
 go_ret
 exact ⟨v', rfl, hown, below_of_grown hgrow⟩

theorem copyBytes_own {B : Nat} {v : Value} {l : List Int} {w : World} (h : Own B 5 w v l) (hl : l.length ≤ 2097152) :
  Calls Tryz.prog 115 #[v] w fun e w' => ∃ v', e = .returned v' ∧ Own w.heap.size 5 w' v' l ∧ Below w.heap.size w w' := copyBytes_reads h.reads hl
end Go.Proofs.YtnplmeifhebhhaaGreat

namespace Go.Proofs.YtnplmeifhebhhaaGreat
open Go.RowKit
set_option linter.unusedVariables false

set_option maxHeartbeats 1000000 in
set_option maxRecDepth 100000 in
theorem implNamePut_has {vb v : Value} {l : List Int} {n : List (List Int)} {w : World} (hvb : Has w vb l) (hl : l.length ≤ 1048576) (h : HasL w v n) :
  Calls Tryz.prog 86 #[vb, .agg #[v]] w fun e w' => ∃ v', e = .returned (.tuple #[v', .bool (nameOk n)]) ∧ Own w.heap.size 5 w' v' (namePut l n) ∧ Below w.heap.size w w' := by
 obtain ⟨a, cap, rfl, hcl, hm⟩ := h.form
 unfold maxLen at hm
 have b0 := below_alloc (w := w) (.cells #[.slice a n.length cap] 69)
 have k0 := heap_alloc_new w (.cells #[.slice a n.length cap] 69)
 have h0 := hide (h.below b0)
 have v0 := hide (hvb.below b0)
 clear h hvb
 cases hok : nameOk n with
 | false =>
  rw [namePut_no hok]
  have HOK := hide hok
  clear hok
  go_enter Tryz.func86, Tryz.ntmps86
  go_wp2_with fail
  generalize w.alloc (.cells #[.slice a n.length cap] 69) = W0 at *
  refine (implNameOk_has (unhide h0)).mono ?_
  rw [unhide HOK]
  rintro e w1 ⟨rfl, b1⟩
  have bb1 := below_next b0 b1
  clear b0 k0 h0 b1
  go_wp2_with fail
  go_ret2
  exact ⟨_, rfl, World.ownsRow_nil _ _ _ _, bb1⟩
 | true =>
  have HOK := hide hok
  have hdl := wires_length n hok
  have h6 := (nameOk_parts hok).1
  have HDS := hide (wires_succ n)
  have HD0 := hide (wires_zero n)
  have HLEN := hide (show ∀ k, k < n.length → (n.getD k []).length ≤ 15 from fun k hk => (labelOk_length ((nameOk_parts hok).2 k hk)).2)
  rw [namePut_yes hok]
  unfold wire
  clear hok
  have HDL := hide hdl
  clear hdl
  generalize wires n = D at *
  go_enter Tryz.func86, Tryz.ntmps86
  go_wp2_with fail
  generalize w.alloc (.cells #[.slice a n.length cap] 69) = W0 at *
  refine (implNameOk_has (unhide h0)).mono ?_
  rw [unhide HOK]
  rintro e w1 ⟨rfl, b1⟩
  have k1 := block_kept b1 k0
  have h1 := hide ((unhide h0).below b1)
  have v1 := hide ((unhide v0).below b1)
  have bb1 := below_next b0 b1
  have z1 := block_lt k1
  clear b0 k0 h0 b1 v0
  go_wp2_with fail
  refine (copyBytes_reads (unhide v1).reads (by omega)).mono ?_
  rintro e w2 ⟨v2, rfl, o2, b2⟩
  have k2 := block_kept b2 k1
  have c2 := block_one k2
  have H1 := hide (unhide h1).at
  have z2 := b2.size
  generalize hn : n.length = m at *
  have HN := hide hn
  clear hn
  have K2 := hide k2
  clear k2 k1 h1 v1
  go_wp2
  go_loopw [6, 17] (fun o i wr => ∃ k : Nat, k ≤ m ∧ i = .int .i64 k ∧ Own w1.heap.size 5 wr o (l ++ D k) ∧ Below w1.heap.size w1 wr) (fun _ i _ => m - (intOf i).toNat)
  case atStart => exact ⟨0, Nat.zero_le _, rfl, by rw [unhide HD0, List.append_nil]; exact o2, b2⟩
  case round =>
   obtain ⟨k, hk, rfl, ho, hb⟩ := hrel
   have zb := hb.size
   have hdk := unhide HDL k
   have hdk2 : (l ++ D k).length ≤ 1048576 + 96 := by rw [List.length_append]; omega
   by_cases hlt : k < m
   ·obtain ⟨b, off, u, rfl, hbl, hc, hu⟩ := ((unhide H1).low hb (Nat.le_refl _)).here (k := k) (by rw [unhide HN]; exact hlt)
    have hds := hide (unhide HDS k hlt)
    have hlk := unhide HLEN k hlt
    generalize n.getD k [] = lab at *
    have HU := hide hu
    obtain ⟨ua, uc, rfl, _⟩ := hu.form
    clear hu
    go_wp2_with fail
    refine (appendCounted_own ho (unhide HU) (by omega) (by omega) zb).mono ?_
    rintro e w3 ⟨v3, rfl, o3, b3⟩
    go_wp2_with fail
    exact ⟨⟨k + 1, by omega, by go_num, by rw [unhide hds, ← List.append_assoc]; exact o3, hb.trans b3⟩, by simp [intOf]; omega⟩
   ·obtain rfl : k = m := by omega
    go_wp2_with (at_builtin; refine append_bytes rfl _ _ 37 5 rfl Tryz.underlying37 info_u8 w1.heap.size _ _ (l ++ D k) [0] rfl rfl (ho.alloc _) (own_lit wr 0 5 [0] (Nat.zero_le _) (by simp [maxLen])).reads (by simp only [List.length_cons, List.length_nil]; omega) (by simp; omega) ?_)
    intro v4 w4 o4 g4
    have b4 : Below w1.heap.size w1 w4 := (hb.alloc zb _).grown g4 (by simp; omega) (fun q hq => (ho.lt q hq).1)
    go_wp2_with fail
    go_ret2
    exact ⟨v4, rfl, by rw [unhide HN]; simpa only [List.append_assoc] using o4.mono (Nat.le_of_lt z1), below_next bb1 b4⟩
end Go.Proofs.YtnplmeifhebhhaaGreat
