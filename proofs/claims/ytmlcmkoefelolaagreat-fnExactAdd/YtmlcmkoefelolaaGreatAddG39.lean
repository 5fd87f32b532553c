/-
  Contracts of the specification's l3ownAll and l5own: records and zones of their own. Contract of the specification's l2under. Contract of the specification's l5alone. Contract of the specification's ZoneOk.
-/
import Derived.Test.YtmlcmkoefelolaaGreatAddG38
import Derived.Test.YtmlcmkoefelolaaGreatAddG12
import Derived.Test.YtmlcmkoefelolaaGreatAddG05
import Derived.Test.YtmlcmkoefelolaaGreatAddG34
import Derived.Test.YtmlcmkoefelolaaGreatAddG10
import Derived.Deep.RegionHeld3
import Derived.Test.YtmlcmkoefelolaaGreatAddG02
import Derived.Test.YtmlcmkoefelolaaGreatAddG23
import Derived.Test.YtmlcmkoefelolaaGreatAddG35
import Derived.Test.YtmlcmkoefelolaaGreatAddG36
namespace Go.Proofs.YtmlcmkoefelolaaGreat
open Go.RowKit
set_option linter.unusedVariables false

theorem drawn_of_short {n : List (List Int)} (h : n.length ≤ 6 ∧ ∀ k, k < n.length → (n.getD k []).length ≤ 15) : DrawnN n := ⟨Nat.le_trans h.1 (by decide), fun k hk => Nat.le_trans (h.2 k hk) (by decide)⟩
theorem info_rrQ : (Tryz.prog.info? 52).map (fun i => (i.zero, i.size, i.bytes)) = some (some (.agg #[.slice none 0 0, .int .i64 0, .int .i64 0, .int .i64 0, .slice none 0 0, .slice none 0 0, .slice none 0 0]), 7, 120) := by kernel_rfl

set_option maxHeartbeats 4000000 in
set_option maxRecDepth 100000 in
theorem l3ownAll_has {v : Value} {rs : List Rec} {w : World} (h : HasRs w v rs) (hsh : ∀ i, i < rs.length → ShortR (rs.getD i recZ)) (hl : rs.length ≤ 1000) :
  Calls Tryz.prog 45 #[v] w fun e w' => ∃ u, e = .returned u ∧ RowQ w.heap.size 52 44 5 3 w' u rs ∧ Below w.heap.size w w' := by
 obtain ⟨a, cap, rfl, _⟩ := h.form
 have H := hide h
 have HS := hide hsh
 clear h hsh
 generalize hn : rs.length = m at *
 have HN := hide hn
 clear hn
 go_enter Tryz.func45, Tryz.ntmps45
 go_wp2
 go_loopw [3, 4] (fun o i wr => ∃ k : Nat, k ≤ m ∧ i = .int .i64 k ∧ RowQ w.heap.size 52 44 5 3 wr o (rs.take k) ∧ Below w.heap.size w wr) (fun _ i _ => m - (intOf i).toNat)
 case atStart => exact ⟨0, Nat.zero_le _, rfl, by simpa using RowQ.nil _ _ _ _ _ _, Below.refl _ _⟩
 case round =>
  obtain ⟨k, hk, rfl, ho, hb⟩ := hrel
  by_cases hlt : k < m
  ·obtain ⟨b, off, na, nc, ta, tc, xa, xc, ia, ic, rfl, hbl, hc, hR⟩ := ((unhide H).below hb).here (k := k) (by rw [unhide HN]; exact hlt)
   have hsk := unhide HS k hlt
   have htk := hide (show rs.take (k + 1) = rs.take k ++ [rs.getD k recZ] by rw [List.take_succ_eq_append_getElem (by rw [unhide HN]; exact hlt)]; simp [show k < rs.length by rw [unhide HN]; exact hlt])
   have htl : (rs.take k).length = k := by rw [List.length_take, unhide HN]; omega
   obtain ⟨c0, c1, c2, c3, c4, c5, c6⟩ := range7 hc
   generalize rs.getD k recZ = r at *
   generalize rs.take k = rk at *
   obtain ⟨oa, oc, hv, _⟩ := ho.form
   rw [htl] at hv
   subst hv
   have HO := hide ho
   have HL := hide (l3own_has hR (drawn_of_short hsk.1) (drawn_of_short hsk.2.1) hsk.2.2.1 hsk.2.2.2)
   have zB := hb.size
   clear ho hR hsk hc
   go_wp2_with fail
   clear c0 c1 c2 c3 c4 c5 c6
   refine (unhide HL).mono ?_
   rintro e w1 ⟨un, ut, ux, ui, rfl, o1, o2, o3, o4, b1⟩
   obtain ⟨pa, pc, rfl, _⟩ := o1.hasL.form
   obtain ⟨qa, qc, rfl, _⟩ := o2.hasL.form
   obtain ⟨ya, yc, rfl, _⟩ := o3.lies
   obtain ⟨za, zc, rfl, _⟩ := o4.lies
   have ba := below_alloc (w := w1) (.cells #[.slice pa r.name.length pc, .int .i64 r.type, .int .i64 r.ttl, .int .i64 r.addr, .slice qa r.to.length qc, .slice ya r.text.length yc, .slice za r.nums.length zc] 52)
   have g1 := heap_alloc_new w1 (.cells #[.slice pa r.name.length pc, .int .i64 r.type, .int .i64 r.ttl, .int .i64 r.addr, .slice qa r.to.length qc, .slice ya r.text.length yc, .slice za r.nums.length zc] 52)
   have OQ := hide ((⟨o1.mono (by omega), o2.mono (by omega), o3.mono (by omega), o4.mono (by omega)⟩ : OwnQ w.heap.size 44 5 3 w1 (.slice pa r.name.length pc) (.slice qa r.to.length qc) (.slice ya r.text.length yc) (.slice za r.nums.length zc) r).below ba)
   have HO2 := hide (((unhide HO).below b1).below ba)
   have bb := below_next (below_next hb b1) ba
   have z1 := b1.size
   have z2 := ba.size
   obtain ⟨xs0, hx0, hx1⟩ := unhide HO2
   rw [htl] at hx0
   clear o1 o2 o3 o4 b1 ba HL HO
   go_wp2_with (at_builtin; refine append_rec' rfl _ _ 30 52 rfl Tryz.underlying30 _ info_rrQ rfl w.heap.size (.slice oa k oc) k rfl w1.heap.size [.slice pa r.name.length pc, .int .i64 r.type, .int .i64 r.ttl, .int .i64 r.addr, .slice qa r.to.length qc, .slice ya r.text.length yc, .slice za r.nums.length zc] rfl ⟨xs0, hx0⟩ g1 rfl (by simp [Value.oneCell']) (by omega) (by simp; omega) ?_)
   intro v2 w2 h2 g2 hw2
   have row2 := RowQ.snoc (by decide) (by decide) (by decide) (unhide HO2) (unhide OQ) g2 (by rw [htl]; exact h2)
   rw [← unhide htk] at row2
   have bb2 := bb.grown g2 bb.size (fun j e => (World.ownsRow.lt hx0 j e).1)
   clear hx0 hx1 h2 g2 hw2 OQ HO2 g1 bb
   go_wp2
   exact ⟨⟨k + 1, by omega, by go_num, row2, bb2⟩, by simp [intOf]; omega⟩
  ·obtain rfl : k = m := by omega
   have hall : rs.take k = rs := List.take_of_length_le (by rw [unhide HN]; exact Nat.le_refl _)
   rw [hall] at ho
   clear hall
   go_wp2
   go_ret
   exact ⟨_, rfl, ho, hb⟩

set_option maxHeartbeats 4000000 in
set_option maxRecDepth 100000 in
theorem l5own_has {vo vr : Value} {o : List (List Int)} {rs : List Rec} {w : World} (h : HasZ w vo vr o rs) (ho : ShortN o) (hsh : ∀ i, i < rs.length → ShortR (rs.getD i recZ)) (hl : rs.length ≤ 1000) :
  Calls Tryz.prog 64 #[.agg #[vo, vr]] w fun e w' => ∃ uo ur, e = .returned (.agg #[uo, ur]) ∧ OwnL w.heap.size 44 5 w' uo o ∧ RowQ w.heap.size 52 44 5 3 w' ur rs ∧ Below w.heap.size w w' := by
 obtain ⟨oa, oc, rfl, _⟩ := h.name.form
 obtain ⟨ra, rc, rfl, _⟩ := h.recs.form
 obtain ⟨hsz, k0, r0⟩ := box2 w (.cells #[.slice oa o.length oc, .slice ra rs.length rc] 34) #[.slice none 0 0, .slice none 0 0] 34
 have b0 := below2 w (.cells #[.slice oa o.length oc, .slice ra rs.length rc] 34) (.cells #[.slice none 0 0, .slice none 0 0] 34)
 have h0 := h.below b0
 have HN := hide (fun (w : World) (hh : HasL w (.slice oa o.length oc) o) => l2own_short hh (drawn_of_short ho).1 (drawn_of_short ho).2)
 have HR := hide (fun (w : World) (hh : HasRs w (.slice ra rs.length rc) rs) => l3ownAll_has hh hsh hl)
 have KB := hide k0
 have KR := hide r0
 have zz := block_lt r0
 have F1 := hide h0.name
 have F2 := hide h0.recs
 clear hsz k0 r0 h h0 ho hsh
 go_enter Tryz.func64, Tryz.ntmps64
 go_wp2_with fail
 generalize (w.alloc (.cells #[.slice oa o.length oc, .slice ra rs.length rc] 34)).alloc (.cells #[.slice none 0 0, .slice none 0 0] 34) = W at *
 have bd := below_drew (w := W)
 have bb := below_next b0 bd
 replace KB := hide (block_kept bd (unhide KB))
 replace KR := hide (block_kept bd (unhide KR))
 replace F1 := hide ((unhide F1).below bd)
 replace F2 := hide ((unhide F2).below bd)
 have z0 := bd.size
 clear bd b0
 have cz := cells2 (unhide KB)
 have c0 := cz.1
 have c1 := cz.2
 clear cz
 go_region_law (first
  | (go_simp; go_at_call 100; refine (unhide HN _ (unhide F1)).mono ?_; rintro e w1 ⟨v1, rfl, o1, b1⟩; obtain ⟨p1, q1, rfl, _⟩ := o1.hasL.form; have N1 := hide o1.here; have KB1 := hide (block_kept b1 (unhide KB)); have KR1 := hide (block_kept b1 (unhide KR)); have F21 := hide ((unhide F2).below b1); have bb1 := below_next bb b1; have z1 := b1.size; have c11 := (cells2 (unhide KB1)).2; clear b1 o1)
  | (go_simp; go_at_call 45; refine (unhide HR _ (unhide F21)).mono ?_; rintro e w2 ⟨v2, rfl, o2, b2⟩; obtain ⟨p2, q2, rfl, _⟩ := o2.form; have N2 := hide o2; have N12 := hide ((unhide N1).below b2); have KB2 := hide (block_kept b2 (unhide KB1)); have KR2 := hide (block_kept b2 (unhide KR1)); have bb2 := below_next bb1 b2; have z2 := b2.size; obtain ⟨d0, d1⟩ := cells2 (unhide KR2); obtain ⟨f0, f1⟩ := frozen2 (unhide KR2); clear b2 o2))
 all_goals
  clear d0 d1 f0 f1 c0 c1 c11
  have kf : ((w2.setCell ⟨w.heap.size + 1, 0, none⟩ (.slice p1 o.length q1)).setCell ⟨w.heap.size + 1, 1, none⟩ (.slice p2 rs.length q2)).heap[w.heap.size + 1]? = some (.cells #[.slice p1 o.length q1, .slice p2 rs.length q2] 34) := block_setAt (block_setAt (unhide KR2) 0 _) 1 _
  have u5 := (outside_set w2 (w.heap.size + 1) 0 (.slice p1 o.length q1)).trans (outside_set _ (w.heap.size + 1) 1 (.slice p2 rs.length q2))
  have g5 := grown_trans (grown_setCell w2 ⟨w.heap.size + 1, 0, none⟩ (.slice p1 o.length q1)) (grown_setCell _ ⟨w.heap.size + 1, 1, none⟩ (.slice p2 rs.length q2))
  have M1 := ((unhide N12).outside u5 (.inr (by omega))).ownL.mono (B' := w.heap.size) (by omega)
  have M2 := ((unhide N2).off (unhide KR2) (by decide) (by decide) (by decide) (by decide) g5).mono (B' := w.heap.size) (by omega)
  have bb5 := u5.below bb2 (by omega)
  clear u5 g5
  go_wp2_with fail
  refine bodyPost_ret (results_cell_row rfl _ _ (w.heap.size + 1) 34 #[.slice p1 o.length q1, .slice p2 rs.length q2] (0, 0) _ rfl kf Tryz.underlying34 rfl (by kernel_rfl)) rfl ?_
  exact ⟨_, _, rfl, M1, M2, bb5⟩
end Go.Proofs.YtmlcmkoefelolaaGreat

namespace Go.Proofs.YtmlcmkoefelolaaGreat
open Go.RowKit
set_option linter.unusedVariables false

set_option maxHeartbeats 2000000 in
set_option maxRecDepth 100000 in
theorem l2under_has {v v' : Value} {n n' : List (List Int)} {w : World} (h : HasL w v n) (h' : HasL w v' n') (hs : n.length ≤ 6) (hs' : n'.length ≤ 6) :
  Calls Tryz.prog 85 #[.agg #[v], .agg #[v']] w fun e w' => e = .returned (.bool (endsWith n n')) ∧ Below w.heap.size w w' := by
 obtain ⟨a, cap, rfl, hcl, hcm⟩ := h.form
 obtain ⟨a', cap', rfl, _⟩ := h'.form
 unfold maxLen at hcm
 have b1 := below_alloc (w := w) (.cells #[.slice a n.length cap] 32)
 have k1 := heap_alloc_new w (.cells #[.slice a n.length cap] 32)
 have e1 : (w.alloc (.cells #[.slice a n.length cap] 32)).heap.size = w.heap.size + 1 := by show (w.heap.push _).size = _; simp
 have b2 := below_alloc (w := w.alloc (.cells #[.slice a n.length cap] 32)) (.cells #[.slice a' n'.length cap'] 32)
 have x2 := heap_alloc_new (w.alloc (.cells #[.slice a n.length cap] 32)) (.cells #[.slice a' n'.length cap'] 32)
 have k2 := block_kept b2 k1
 rw [e1] at x2
 have bb2 := below_next b1 b2
 have h2 := hide (h.below bb2)
 have h2' := hide (h'.below bb2)
 clear h h' b1 b2 k1 e1
 have hno := hide (fun (hlt : n.length < n'.length) => endsWith_no hlt)
 have hyes := hide (fun (hle : n'.length ≤ n.length) => endsWith_yes hle)
 generalize endsWith n n' = R at *
 have hdrop := hide (fun (W : World) (hW : HasL W (.slice a n.length cap) n) (k : Nat) (hk : k ≤ n.length) => HasL.drop hW rfl hk)
 by_cases hle : n'.length ≤ n.length
 ·have hr := unhide hyes hle
  have HDR := hide (unhide hdrop _ ((unhide h2).below below_drew) (n.length - n'.length) (by omega))
  clear hyes hno hdrop
  generalize hj : n.length - n'.length = j at *
  have hlen : (n.drop j).length = n.length - j := by simp
  generalize n.drop j = nd at *
  have s1 : (n.length : Int) - n'.length = j := by omega
  have wj : IntKind.i64.wrap (j : Int) = j := wrap_small j (by omega)
  have jl : j ≤ n.length := by omega
  have jc : j ≤ cap := by omega
  have j0 : (0 : Int) ≤ j := by omega
  go_enter Tryz.func85, Tryz.ntmps85
  go_wp2_with fail
  generalize (w.alloc (.cells #[.slice a n.length cap] 32)).alloc (.cells #[.slice a' n'.length cap'] 32) = W at *
  have kd := block_kept (below_drew (w := W)) k2
  have xd := block_kept (below_drew (w := W)) x2
  have ck := block_one kd
  have cx := block_one xd
  have KD := hide kd
  have XD := hide xd
  clear kd xd k2 x2
  rcases unhide HDR with ⟨ha, hm0, hc0⟩ | ⟨g, off, ha, hd⟩
  ·clear HDR
   have hz' : n'.length = 0 := by omega
   have hz : j = 0 := by omega
   obtain rfl : nd = [] := List.eq_nil_of_length_eq_zero (by omega)
   obtain rfl : n' = [] := List.eq_nil_of_length_eq_zero hz'
   obtain rfl : n = [] := List.eq_nil_of_length_eq_zero hm0
   subst ha hc0 hz
   clear hj hlen s1 wj jl jc hz' hm0 hle hs hs' hcl j0
   simp only [List.length_nil] at *
   have HD := hide (show HasL W.drew (.slice none 0 0) [] from .inl ⟨rfl, rfl⟩)
   have hS := hide (l2cmp_has (unhide HD) ((unhide h2').below below_drew) (by simp) (by simp))
   go_region_held3 (fun w' => w'.cell? ⟨w.heap.size, 0, none⟩ = some (.slice none 0 0) ∧ w'.cell? ⟨w.heap.size + 1, 0, none⟩ = some (.slice a' 0 cap'))
    (first | (exact ⟨ck, cx⟩) | (exact ⟨c5k, c5x⟩))
    (first | (go_at_call 88; refine (unhide hS).mono ?_; generalize cmpN [] [] = c at *; subst hr; rintro e w5 ⟨rfl, b5⟩; have c5k := block_one (block_kept b5 (unhide KD)); have c5x := block_one (block_kept b5 (unhide XD))))
   all_goals
    go_wp2_with fail
    go_ret
    exact ⟨rfl, below_next (below_next bb2 below_drew) b5⟩
  ·clear HDR
   subst ha
   by_cases hcj : cap = j
   ·have e2 : j = n.length := by omega
    have e1 : cap = n.length := by omega
    obtain rfl : n' = [] := List.eq_nil_of_length_eq_zero (by omega)
    obtain rfl : nd = [] := List.eq_nil_of_length_eq_zero (by omega)
    rw [if_pos hcj, e1, e2, Nat.sub_self] at hd
    have HD := hide hd
    subst e1 e2
    clear hd hj hlen hcj hle hs' jl jc s1 hcl
    simp only [List.length_nil] at *
    generalize hn : n.length = m at *
    have hS := hide (l2cmp_has (unhide HD) ((unhide h2').below below_drew) (by simp) (by simp))
    go_region_held3 (fun w' => w'.cell? ⟨w.heap.size, 0, none⟩ = some (.slice (some ⟨g, off, none⟩) m m) ∧ w'.cell? ⟨w.heap.size + 1, 0, none⟩ = some (.slice a' 0 cap'))
     (first | (exact ⟨ck, cx⟩) | (exact ⟨c5k, c5x⟩))
     (first | (go_at_call 88; refine (unhide hS).mono ?_; generalize cmpN [] [] = c at *; subst hr; rintro e w5 ⟨rfl, b5⟩; have c5k := block_one (block_kept b5 (unhide KD)); have c5x := block_one (block_kept b5 (unhide XD))))
    all_goals
     go_wp2_with fail
     go_ret
     exact ⟨rfl, below_next (below_next bb2 below_drew) b5⟩
   ·rw [if_neg hcj] at hd
    have HD := hide hd
    clear hd
    have hS := hide (l2cmp_has (unhide HD) ((unhide h2').below below_drew) (by omega) (by omega))
    go_region_held3 (fun w' => w'.cell? ⟨w.heap.size, 0, none⟩ = some (.slice (some ⟨g, off, none⟩) n.length cap) ∧ w'.cell? ⟨w.heap.size + 1, 0, none⟩ = some (.slice a' n'.length cap'))
     (first | (exact ⟨ck, cx⟩) | (exact ⟨c5k, c5x⟩))
     (first | (go_at_call 88; refine (unhide hS).mono ?_; generalize cmpN nd n' = c at *; subst hr; rintro e w5 ⟨rfl, b5⟩; have c5k := block_one (block_kept b5 (unhide KD)); have c5x := block_one (block_kept b5 (unhide XD))))
    all_goals
     go_wp2_with fail
     go_ret
     exact ⟨rfl, below_next (below_next bb2 below_drew) b5⟩
 ·have hr := unhide hno (by omega)
  subst hr
  have s1 : wrap64 ((n.length : Int) - n'.length) = (n.length : Int) - n'.length := by unfold wrap64; omega
  clear hyes hno hdrop
  have s2 : ¬ (0 : Int) ≤ (n.length : Int) - n'.length := by omega
  have KD := hide k2
  have XD := hide x2
  go_enter Tryz.func85, Tryz.ntmps85
  go_wp2_with fail
  generalize (w.alloc (.cells #[.slice a n.length cap] 32)).alloc (.cells #[.slice a' n'.length cap'] 32) = W at *
  have ck := block_one (unhide KD)
  have cx := block_one (unhide XD)
  clear k2 x2
  go_quiet (fail)
  go_wp2
  go_ret
  exact ⟨rfl, below_next bb2 (below_draws nq)⟩
end Go.Proofs.YtmlcmkoefelolaaGreat

namespace Go.Proofs.YtmlcmkoefelolaaGreat
open Go.RowKit
set_option linter.unusedVariables false

/-- Has no other one of the first n its name, if it is an alias. -/
def aloneB (rs : List Rec) (i : Nat) : Bool := decide ((rs.getD i recZ).type ≠ 5) || decide (∀ k, k < rs.length → k ≠ i → cmpN (rs.getD k recZ).name (rs.getD i recZ).name ≠ 0)
theorem aloneB_iff (rs : List Rec) (i : Nat) : aloneB rs i = true ↔ alone rs i := by
 unfold aloneB alone
 rw [Bool.or_eq_true, decide_eq_true_iff, decide_eq_true_iff]
 constructor
 ·intro h e
  exact h.resolve_left (fun q => q e)
 ·intro h
  by_cases e : (rs.getD i recZ).type = 5
  ·exact .inr (h e)
  ·exact .inl e
theorem aloneB_free {rs : List Rec} {i : Nat} (h : (rs.getD i recZ).type ≠ 5) : aloneB rs i = true := by
 unfold aloneB
 rw [decide_eq_true h, Bool.true_or]
theorem aloneB_all {rs : List Rec} {i : Nat} (h : ∀ k, k < rs.length → k ≠ i → cmpN (rs.getD k recZ).name (rs.getD i recZ).name ≠ 0) : aloneB rs i = true := by
 unfold aloneB
 rw [decide_eq_true h, Bool.or_true]
theorem aloneB_not {rs : List Rec} {i k : Nat} (h5 : (rs.getD i recZ).type = 5) (hk : k < rs.length) (hne : k ≠ i) (h0 : cmpN (rs.getD k recZ).name (rs.getD i recZ).name = 0) : aloneB rs i = false := by
 cases h : aloneB rs i with
 | false => rfl
 | true => exact absurd h0 ((aloneB_iff rs i).1 h h5 k hk hne)

set_option maxHeartbeats 1000000 in
set_option maxRecDepth 100000 in
theorem l5alone_has {v : Value} {rs : List Rec} {i : Nat} {w : World} (h : HasRs w v rs) (hi : i < rs.length) (h60 : rs.length ≤ 60) (hs : ∀ k, k < rs.length → (rs.getD k recZ).name.length ≤ 1048576) :
  Calls Tryz.prog 87 #[v, .int .i64 i] w fun e w' => e = .returned (.bool (aloneB rs i)) ∧ Below w.heap.size w w' := by
 obtain ⟨a, cap, rfl, _⟩ := h.form
 obtain ⟨b, off, na, nc, ta, tc, xa, xc, ia, ic, rfl, hbl, hc, hu⟩ := h.here hi
 generalize hAL : aloneB rs i = AL
 have HAL := hide hAL
 clear hAL
 generalize hri : rs.getD i recZ = ri at *
 have HRI := hide hri
 clear hri
 have HS := hide hs
 clear hs
 have hii : (i : Int) < rs.length := by omega
 generalize hn : rs.length = m at *
 have HN := hide hn
 clear hn
 obtain ⟨c0, c1, c2, c3, c4, c5, c6⟩ := range7 hc
 have HC := hide hc
 have HU := hide hu
 clear hc hu
 by_cases h5 : ri.type = 5
 ·have e5 : (ri.type != 5) = false := by rw [h5]; rfl
  have H5 := hide h5
  clear h5
  go_enter Tryz.func87, Tryz.ntmps87
  go_wp2_with fail
  clear c0 c1 c2 c3 c4 c5 c6 e5
  go_loopw [5] (fun x wr => ∃ k : Nat, k ≤ m ∧ x = .int .i64 k ∧ Hid (∀ j, j < k → j ≠ i → cmpN (rs.getD j recZ).name ri.name ≠ 0) ∧ Below w.heap.size w wr) (fun x _ => m - (intOf x).toNat)
  case atStart => exact ⟨0, Nat.zero_le _, rfl, hide (fun j hj => absurd hj (Nat.not_lt_zero _)), Below.refl _ _⟩
  case round =>
   obtain ⟨k, hk, rfl, hall, hb⟩ := hrel
   by_cases hlt : k < m
   ·have bd := below_drew (w := wr)
    have hbd := below_next hb bd
    by_cases hki : k = i
    ·have e1 : ((k : Int) != i) = false := by rw [hki]; simp
     have hall' : ∀ j, j < k + 1 → j ≠ i → cmpN (rs.getD j recZ).name ri.name ≠ 0 := fun j hj hne => unhide hall j (by omega) hne
     have HALL := hide hall'
     clear hall' hki
     go_wp2_with fail
     refine wp_region_held_drew (S := (fun _ => True)) (by kernel_rfl) trivial (fun hHeld => ?_)
     show wpAnyH _ _ _ _ _ 17 #[false, false, false, false, false, false, false, false, false, false, false, false, false, false, false, false, false] _ _
     iterate 2 (refine tkF ?_ rfl (by kernel_rfl) (by kernel_rfl) (fun _ _ _ h => h) ?_ hHeld ?_; rotate_left; (· (intro w hSw; (try dsimp only at hSw); go_simp <;> with_reducible rfl)); simp only [Act.put, setF, List.setIfInBounds_toArray, List.set_cons_zero, List.set_cons_succ])
     refine tkF (.bool false) rfl (by kernel_rfl) (by kernel_rfl) (fun _ _ _ h => h) ?_ hHeld ?_; (· (intro w hSw; (try dsimp only at hSw); go_simp)); simp only [Act.put, setF, List.setIfInBounds_toArray, List.set_cons_zero, List.set_cons_succ]
     refine tkF (.bool false) rfl (by kernel_rfl) (by kernel_rfl) (fun _ _ _ h => h) ?_ hHeld ?_; (· (intro w hSw; (try dsimp only at hSw); go_simp)); simp only [Act.put, setF, List.setIfInBounds_toArray, List.set_cons_zero, List.set_cons_succ]
     iterate 12 (refine skF rfl (by kernel_rfl) (by kernel_rfl) (fun _ _ _ h => h) hHeld ?_; simp only [Act.put, setF, List.setIfInBounds_toArray, List.set_cons_zero, List.set_cons_succ])
     refine tkF ?_ rfl (by kernel_rfl) (by kernel_rfl) (fun _ _ _ h => h) ?_ hHeld ?_; rotate_left; (· (intro w hSw; (try dsimp only at hSw); go_simp <;> with_reducible rfl)); simp only [Act.put, setF, List.setIfInBounds_toArray, List.set_cons_zero, List.set_cons_succ]
     refine wpAnyH_done (by kernel_rfl) ?_ _
     clear hHeld
     go_wp2_with fail
     exact ⟨⟨k + 1, by omega, by go_num, HALL, hbd⟩, by simp [intOf]; omega⟩
    ·obtain ⟨b', off', na', nc', ta', tc', xa', xc', ia', ic', hbe, hbl', hc', hu'⟩ := (h.below hb).here (k := k) (by rw [unhide HN]; exact hlt)
     simp only [Option.some.injEq, Addr.mk.injEq, and_true] at hbe
     obtain ⟨rfl, rfl⟩ := hbe
     have hsk := unhide HS k hlt
     have hsi : ri.name.length ≤ 1048576 := by have := unhide HS i (by omega); rw [unhide HRI] at this; exact this
     have e1 : ((k : Int) != i) = true := by rw [bne_iff_ne]; omega
     have hkm : (k : Int) < m := by omega
     have hlim := hlt
     generalize hrk : rs.getD k recZ = rk at *
     have HRK := hide hrk
     clear hrk
     have CM := fun (w : World) (h1 : HasL w (.slice na' rk.name.length nc') rk.name) (h2 : HasL w (.slice na ri.name.length nc) ri.name) => l2cmp_has h1 h2 hsk hsi
     have HC4 := hide (range_below hc' hbl' bd)
     have HC5 := hide (range_below (range_below (unhide HC) hbl hb) (Nat.lt_of_lt_of_le hbl hb.size) bd)
     have hbl4 : b < wr.drew.heap.size := hbl'
     have U4 := hide (hu'.name.below bd)
     have U5 := hide ((unhide HU).name.below hbd)
     clear hc' hu' hsk hsi
     by_cases hz : cmpN rk.name ri.name = 0
     ·have hA := aloneB_not (rs := rs) (i := i) (k := k) (by rw [unhide HRI]; exact unhide H5) (by rw [unhide HN]; exact hlt) hki (by rw [unhide HRK, unhide HRI]; exact hz)
      rw [unhide HAL] at hA
      subst hA
      rw [hz] at CM
      replace CM := hide CM
      clear hz HAL hall hki
      go_wp2_with fail
      refine wp_region_held_drew (S := (fun w' => w'.cell? ⟨b, off + k * 7, none⟩ = some (.slice na' rk.name.length nc') ∧ w'.cell? ⟨b, off + i * 7, none⟩ = some (.slice na ri.name.length nc))) (by kernel_rfl) ⟨(range7 (unhide HC4)).1, (range7 (unhide HC5)).1⟩ (fun hHeld => ?_)
      show wpAnyH _ _ _ _ _ 17 #[false, false, false, false, false, false, false, false, false, false, false, false, false, false, false, false, false] _ _
      iterate 2 (refine tkF ?_ rfl (by kernel_rfl) (by kernel_rfl) (fun _ _ _ h => h) ?_ hHeld ?_; rotate_left; (· (intro w hSw; (try dsimp only at hSw); go_simp <;> with_reducible rfl)); simp only [Act.put, setF, List.setIfInBounds_toArray, List.set_cons_zero, List.set_cons_succ])
      refine tkF (.bool true) rfl (by kernel_rfl) (by kernel_rfl) (fun _ _ _ h => h) ?_ hHeld ?_; (· (intro w hSw; (try dsimp only at hSw); go_simp)); simp only [Act.put, setF, List.setIfInBounds_toArray, List.set_cons_zero, List.set_cons_succ]
      refine tkF (.bool true) rfl (by kernel_rfl) (by kernel_rfl) (fun _ _ _ h => h) ?_ hHeld ?_; (· (intro w hSw; (try dsimp only at hSw); go_simp)); simp only [Act.put, setF, List.setIfInBounds_toArray, List.set_cons_zero, List.set_cons_succ]
      iterate 2 (refine tkF ?_ rfl (by kernel_rfl) (by kernel_rfl) (fun _ _ _ h => h) ?_ hHeld ?_; rotate_left; (· (intro w hSw; (try dsimp only at hSw); go_simp <;> with_reducible rfl)); simp only [Act.put, setF, List.setIfInBounds_toArray, List.set_cons_zero, List.set_cons_succ])
      refine tkF (.pointer (some ⟨b, off + k * 7, none⟩)) rfl (by kernel_rfl) (by kernel_rfl) (fun _ _ _ h => h) ?_ hHeld ?_; (· (intro w hSw; (try dsimp only at hSw); go_simp)); simp only [Act.put, setF, List.setIfInBounds_toArray, List.set_cons_zero, List.set_cons_succ]
      iterate 4 (refine tkF ?_ rfl (by kernel_rfl) (by kernel_rfl) (fun _ _ _ h => h) ?_ hHeld ?_; rotate_left; (· (intro w hSw; (try dsimp only at hSw); go_simp <;> with_reducible rfl)); simp only [Act.put, setF, List.setIfInBounds_toArray, List.set_cons_zero, List.set_cons_succ])
      refine tkF (.pointer (some ⟨b, off + i * 7, none⟩)) rfl (by kernel_rfl) (by kernel_rfl) (fun _ _ _ h => h) ?_ hHeld ?_; (· (intro w hSw; (try dsimp only at hSw); go_simp)); simp only [Act.put, setF, List.setIfInBounds_toArray, List.set_cons_zero, List.set_cons_succ]
      iterate 2 (refine tkF ?_ rfl (by kernel_rfl) (by kernel_rfl) (fun _ _ _ h => h) ?_ hHeld ?_; rotate_left; (· (intro w hSw; (try dsimp only at hSw); go_simp <;> with_reducible rfl)); simp only [Act.put, setF, List.setIfInBounds_toArray, List.set_cons_zero, List.set_cons_succ])
      refine runI 14 rfl (by kernel_rfl) (by kernel_rfl) (fun K hK => ?_)
      have HK := hide hK
      clear hK hHeld
      go_simp
      refine (unhide CM _ (unhide U4) (unhide U5)).mono ?_
      rintro e w2 ⟨rfl, b2⟩
      go_simp
      refine (unhide HK).out _ _ ⟨(range7 (range_below (unhide HC4) hbl4 b2)).1, (range7 (range_below (unhide HC5) hbl4 b2)).1⟩ (fun hHeld => ?_)
      clear HK K
      try simp only [List.setIfInBounds_toArray, List.set_cons_zero, List.set_cons_succ]
      refine tkF (.bool true) rfl (by kernel_rfl) (by kernel_rfl) (fun _ _ _ h => h) ?_ hHeld ?_; (· (intro w hSw; (try dsimp only at hSw); go_simp)); simp only [Act.put, setF, List.setIfInBounds_toArray, List.set_cons_zero, List.set_cons_succ]
      refine tkF (.bool true) rfl (by kernel_rfl) (by kernel_rfl) (fun _ _ _ h => h) ?_ hHeld ?_; (· (intro w hSw; (try dsimp only at hSw); go_simp)); simp only [Act.put, setF, List.setIfInBounds_toArray, List.set_cons_zero, List.set_cons_succ]
      refine wpAnyH_done (by kernel_rfl) ?_ _
      clear hHeld
      go_wp2_with fail
      go_ret
      exact ⟨rfl, below_next hbd b2⟩
     ·have hall' : ∀ j, j < k + 1 → j ≠ i → cmpN (rs.getD j recZ).name ri.name ≠ 0 := fun j hj hne => by
       by_cases e : j = k
       ·subst e; rw [unhide HRK]; exact hz
       ·exact unhide hall j (by omega) hne
      have HALL := hide hall'
      have e2 : (cmpN rk.name ri.name == 0) = false := by rw [beq_eq_false_iff_ne]; exact hz
      generalize cmpN rk.name ri.name = c at *
      replace CM := hide CM
      clear hall' hz hki
      go_wp2_with fail
      refine wp_region_held_drew (S := (fun w' => w'.cell? ⟨b, off + k * 7, none⟩ = some (.slice na' rk.name.length nc') ∧ w'.cell? ⟨b, off + i * 7, none⟩ = some (.slice na ri.name.length nc))) (by kernel_rfl) ⟨(range7 (unhide HC4)).1, (range7 (unhide HC5)).1⟩ (fun hHeld => ?_)
      show wpAnyH _ _ _ _ _ 17 #[false, false, false, false, false, false, false, false, false, false, false, false, false, false, false, false, false] _ _
      iterate 2 (refine tkF ?_ rfl (by kernel_rfl) (by kernel_rfl) (fun _ _ _ h => h) ?_ hHeld ?_; rotate_left; (· (intro w hSw; (try dsimp only at hSw); go_simp <;> with_reducible rfl)); simp only [Act.put, setF, List.setIfInBounds_toArray, List.set_cons_zero, List.set_cons_succ])
      refine tkF (.bool true) rfl (by kernel_rfl) (by kernel_rfl) (fun _ _ _ h => h) ?_ hHeld ?_; (· (intro w hSw; (try dsimp only at hSw); go_simp)); simp only [Act.put, setF, List.setIfInBounds_toArray, List.set_cons_zero, List.set_cons_succ]
      refine tkF (.bool true) rfl (by kernel_rfl) (by kernel_rfl) (fun _ _ _ h => h) ?_ hHeld ?_; (· (intro w hSw; (try dsimp only at hSw); go_simp)); simp only [Act.put, setF, List.setIfInBounds_toArray, List.set_cons_zero, List.set_cons_succ]
      iterate 2 (refine tkF ?_ rfl (by kernel_rfl) (by kernel_rfl) (fun _ _ _ h => h) ?_ hHeld ?_; rotate_left; (· (intro w hSw; (try dsimp only at hSw); go_simp <;> with_reducible rfl)); simp only [Act.put, setF, List.setIfInBounds_toArray, List.set_cons_zero, List.set_cons_succ])
      refine tkF (.pointer (some ⟨b, off + k * 7, none⟩)) rfl (by kernel_rfl) (by kernel_rfl) (fun _ _ _ h => h) ?_ hHeld ?_; (· (intro w hSw; (try dsimp only at hSw); go_simp)); simp only [Act.put, setF, List.setIfInBounds_toArray, List.set_cons_zero, List.set_cons_succ]
      iterate 4 (refine tkF ?_ rfl (by kernel_rfl) (by kernel_rfl) (fun _ _ _ h => h) ?_ hHeld ?_; rotate_left; (· (intro w hSw; (try dsimp only at hSw); go_simp <;> with_reducible rfl)); simp only [Act.put, setF, List.setIfInBounds_toArray, List.set_cons_zero, List.set_cons_succ])
      refine tkF (.pointer (some ⟨b, off + i * 7, none⟩)) rfl (by kernel_rfl) (by kernel_rfl) (fun _ _ _ h => h) ?_ hHeld ?_; (· (intro w hSw; (try dsimp only at hSw); go_simp)); simp only [Act.put, setF, List.setIfInBounds_toArray, List.set_cons_zero, List.set_cons_succ]
      iterate 2 (refine tkF ?_ rfl (by kernel_rfl) (by kernel_rfl) (fun _ _ _ h => h) ?_ hHeld ?_; rotate_left; (· (intro w hSw; (try dsimp only at hSw); go_simp <;> with_reducible rfl)); simp only [Act.put, setF, List.setIfInBounds_toArray, List.set_cons_zero, List.set_cons_succ])
      refine runI 14 rfl (by kernel_rfl) (by kernel_rfl) (fun K hK => ?_)
      have HK := hide hK
      clear hK hHeld
      go_simp
      refine (unhide CM _ (unhide U4) (unhide U5)).mono ?_
      rintro e w2 ⟨rfl, b2⟩
      go_simp
      refine (unhide HK).out _ _ ⟨(range7 (range_below (unhide HC4) hbl4 b2)).1, (range7 (range_below (unhide HC5) hbl4 b2)).1⟩ (fun hHeld => ?_)
      clear HK K
      try simp only [List.setIfInBounds_toArray, List.set_cons_zero, List.set_cons_succ]
      refine tkF (.bool false) rfl (by kernel_rfl) (by kernel_rfl) (fun _ _ _ h => h) ?_ hHeld ?_; (· (intro w hSw; (try dsimp only at hSw); go_simp)); simp only [Act.put, setF, List.setIfInBounds_toArray, List.set_cons_zero, List.set_cons_succ]
      refine tkF (.bool false) rfl (by kernel_rfl) (by kernel_rfl) (fun _ _ _ h => h) ?_ hHeld ?_; (· (intro w hSw; (try dsimp only at hSw); go_simp)); simp only [Act.put, setF, List.setIfInBounds_toArray, List.set_cons_zero, List.set_cons_succ]
      refine wpAnyH_done (by kernel_rfl) ?_ _
      clear hHeld
      go_wp2_with fail
      exact ⟨⟨k + 1, by omega, by go_num, HALL, below_next hbd b2⟩, by simp [intOf]; omega⟩
   ·obtain rfl : k = m := by omega
    have hA := aloneB_all (rs := rs) (i := i) (fun j hj hne => by rw [unhide HRI]; exact unhide hall j (by rw [unhide HN] at hj; exact hj) hne)
    rw [unhide HAL] at hA
    subst hA
    go_wp2
    go_ret
    exact ⟨rfl, hb⟩
 ·have hA := aloneB_free (rs := rs) (i := i) (by rw [unhide HRI]; exact h5)
  rw [unhide HAL] at hA
  subst hA
  have e5 : (ri.type != 5) = true := by rw [bne_iff_ne]; exact h5
  clear h5
  go_enter Tryz.func87, Tryz.ntmps87
  go_wp2_with fail
  go_ret
  exact ⟨rfl, Below.refl _ _⟩
end Go.Proofs.YtmlcmkoefelolaaGreat

namespace Go.Proofs.YtmlcmkoefelolaaGreat
open Go.RowKit
set_option linter.unusedVariables false

theorem one_count2 (n : Nat) : (((n : Nat) : Int) == 1) = decide (n = 1) := by
 rw [Bool.eq_iff_iff, beq_iff_eq, decide_eq_true_iff]
 omega

set_option maxHeartbeats 4000000 in
set_option maxRecDepth 100000 in
theorem specZoneOk_has {vo vr : Value} {o : List (List Int)} {rs : List Rec} {w : World} (h : HasZ w vo vr o rs) (hs : ∀ k, k < rs.length → (rs.getD k recZ).name.length ≤ 1048576) :
  Calls Tryz.prog 43 #[.agg #[vo, vr]] w fun e w' => e = .returned (.bool (zoneOk o rs)) ∧ Below w.heap.size w w' := by
 obtain ⟨oa, oc, rfl, _⟩ := h.name.form
 obtain ⟨ra, rc, rfl, hrl, hrm⟩ := h.recs.form
 have b0 := below_alloc (w := w) (.cells #[.slice oa o.length oc, .slice ra rs.length rc] 34)
 have k0 := heap_alloc_new w (.cells #[.slice oa o.length oc, .slice ra rs.length rc] 34)
 have H0 := hide (h.below b0)
 have K0 := hide k0
 have NO := specNameOk_has (h.below b0).name
 have HSS := hide hs
 clear h k0 hrl hrm hs
 cases hok : nameOk o with
 | false =>
  rw [zoneOk_name hok]
  rw [hok] at NO
  replace NO := hide NO
  clear hok
  go_enter Tryz.func43, Tryz.ntmps43
  go_wp2_with fail
  refine (unhide NO).mono ?_
  rintro e w1 ⟨rfl, b1⟩
  go_wp2_with fail
  go_ret
  exact ⟨rfl, below_next b0 b1⟩
 | true =>
  rw [hok] at NO
  replace NO := hide NO
  by_cases h60 : rs.length ≤ 60
  ·generalize hzz : zoneOk o rs = ZZ
   have HZZ := hide hzz
   have HOK := hide hok
   clear hzz hok
   go_enter Tryz.func43, Tryz.ntmps43
   go_wp2_with fail
   generalize w.alloc (.cells #[.slice oa o.length oc, .slice ra rs.length rc] 34) = W at *
   refine (unhide NO).mono ?_
   rintro e w1 ⟨rfl, b1⟩
   have K1 := hide (block_kept b1 (unhide K0))
   have H1 := hide ((unhide H0).below b1)
   have bb1 := below_next b0 b1
   obtain ⟨d0, d1⟩ := cells2 (unhide K1)
   clear NO K0 H0 b0 b1
   generalize hn : rs.length = m at *
   have HN := hide hn
   clear hn
   have h60' : ¬ ((60 : Int) < m) := by omega
   go_wp2_with fail
   clear d0 d1
   go_loopw [3, 4] (fun s i wr => ∃ (k : Nat), k ≤ m ∧ i = .int .i64 k ∧ s = .int .i64 (soas rs k : Nat) ∧ Hid (∀ j, j < k → GoodS o rs j) ∧ Below w1.heap.size w1 wr) (fun _ i _ => m - (intOf i).toNat)
   case atStart => exact ⟨0, Nat.zero_le _, rfl, rfl, hide (fun j hj => absurd hj (Nat.not_lt_zero _)), Below.refl _ _⟩
   case round =>
    obtain ⟨k, hk, rfl, rfl, hall, hb⟩ := hrel
    have hsk := soas_le rs k
    by_cases hlt : k < m
    ·obtain ⟨b, off, na, nc, ta, tc, xa, xc, ia, ic, rfl, hbl, hc, hu⟩ := ((unhide H1).below hb).recs.here (k := k) (by rw [unhide HN]; exact hlt)
     have K2 := hide (block_kept hb (unhide K1))
     have H2 := hide ((unhide H1).below hb)
     have bb2 := below_next bb1 hb
     have hsoa : soas rs (k + 1) = soas rs k + if (rs.getD k recZ).type = 6 then 1 else 0 := rfl
     have HSOA := hide hsoa
     clear hsoa
     generalize hrk : rs.getD k recZ = rk at *
     have HRK := hide hrk
     clear hrk
     have b3 := below_alloc (w := wr) (.cells #[.slice na rk.name.length nc, .int .i64 rk.type, .int .i64 rk.ttl, .int .i64 rk.addr, .slice ta rk.to.length tc, .slice xa rk.text.length xc, .slice ia rk.nums.length ic] 52)
     have X3 := heap_alloc_new wr (.cells #[.slice na rk.name.length nc, .int .i64 rk.type, .int .i64 rk.ttl, .int .i64 rk.addr, .slice ta rk.to.length tc, .slice xa rk.text.length xc, .slice ia rk.nums.length ic] 52)
     have bd := below_drew (w := wr.alloc (.cells #[.slice na rk.name.length nc, .int .i64 rk.type, .int .i64 rk.ttl, .int .i64 rk.addr, .slice ta rk.to.length tc, .slice xa rk.text.length xc, .slice ia rk.nums.length ic] 52))
     have b4 := below_next b3 bd
     have X4 := hide (block_kept bd X3)
     have K4 := hide (block_kept b4 (unhide K2))
     have H4 := hide ((unhide H2).below b4)
     have U4 := hide (hu.below b4)
     have bb4 := below_next bb2 b4
     have bw4 := below_next hb b4
     have z4 := b4.size
     obtain ⟨c0, c1, c2, c3, c4, c5, c6⟩ := range7 hc
     obtain ⟨zc0, zc1⟩ := cells2 (unhide K2)
     clear b3 X3 bd b4 hu hc K2 H2 hb
     have RK := specRrOk_has (unhide U4)
     cases hok : rrOk rk with
     | false =>
      have hz := zoneOk_badS (unhide HOK) (show k < rs.length by rw [unhide HN]; exact hlt) (fun g => by have := g.ok; rw [unhide HRK, hok] at this; cases this)
      rw [unhide HZZ] at hz
      subst hz
      rw [hok] at RK
      replace RK := hide RK
      clear hok HZZ HSOA
      go_wp2_with fail
      clear c0 c1 c2 c3 c4 c5 c6 zc0 zc1
      refine wp_region_held_drew (S := (fun w' => (w'.cell? ⟨w.heap.size, 0, none⟩ = some (.slice oa o.length oc) ∧ w'.cell? ⟨w.heap.size, 1, none⟩ = some (.slice (some ⟨b, off, none⟩) m rc)) ∧ (w'.cell? ⟨wr.heap.size, 0, none⟩ = some (.slice na rk.name.length nc) ∧ w'.cell? ⟨wr.heap.size, 1, none⟩ = some (.int .i64 rk.type) ∧ w'.cell? ⟨wr.heap.size, 2, none⟩ = some (.int .i64 rk.ttl) ∧ w'.cell? ⟨wr.heap.size, 3, none⟩ = some (.int .i64 rk.addr) ∧ w'.cell? ⟨wr.heap.size, 4, none⟩ = some (.slice ta rk.to.length tc) ∧ w'.cell? ⟨wr.heap.size, 5, none⟩ = some (.slice xa rk.text.length xc) ∧ w'.cell? ⟨wr.heap.size, 6, none⟩ = some (.slice ia rk.nums.length ic)))) (by kernel_rfl) ⟨cells2 (unhide K4), cells7 (unhide X4)⟩ (fun hHeld => ?_)
      show wpAnyH _ _ _ _ _ 33 #[false, false, false, false, false, false, false, false, false, false, false, false, false, false, false, false, false, false, false, false, false, false, false, false, false, false, false, false, false, false, false, false, false] _ _
      refine tkF ?_ rfl (by kernel_rfl) (by kernel_rfl) (fun _ _ _ h => h) ?_ hHeld ?_; rotate_left; (· (intro w hSw; (try dsimp only at hSw); go_simp <;> with_reducible rfl)); simp only [Act.put, setF, List.setIfInBounds_toArray, List.set_cons_zero, List.set_cons_succ]
      refine runI 1 rfl (by kernel_rfl) (by kernel_rfl) (fun K hK => ?_)
      have HK := hide hK
      clear hK hHeld
      go_simp
      refine (unhide RK).mono ?_
      rintro e w5 ⟨rfl, q5⟩
      go_simp
      refine (unhide HK).out _ _ ⟨cells2 (block_kept q5 (unhide K4)), cells7 (block_kept q5 (unhide X4))⟩ (fun hHeld => ?_)
      clear HK K
      try simp only [List.setIfInBounds_toArray, List.set_cons_zero, List.set_cons_succ]
      iterate 2 (refine tkF ?_ rfl (by kernel_rfl) (by kernel_rfl) (fun _ _ _ h => h) ?_ hHeld ?_; rotate_left; (· (intro w hSw; (try dsimp only at hSw); go_simp <;> with_reducible rfl)); simp only [Act.put, setF, List.setIfInBounds_toArray, List.set_cons_zero, List.set_cons_succ])
      iterate 6 (refine skF rfl (by kernel_rfl) (by kernel_rfl) (fun _ _ _ h => h) hHeld ?_; simp only [Act.put, setF, List.setIfInBounds_toArray, List.set_cons_zero, List.set_cons_succ])
      iterate 2 (refine tkF ?_ rfl (by kernel_rfl) (by kernel_rfl) (fun _ _ _ h => h) ?_ hHeld ?_; rotate_left; (· (intro w hSw; (try dsimp only at hSw); go_simp <;> with_reducible rfl)); simp only [Act.put, setF, List.setIfInBounds_toArray, List.set_cons_zero, List.set_cons_succ])
      iterate 13 (refine skF rfl (by kernel_rfl) (by kernel_rfl) (fun _ _ _ h => h) hHeld ?_; simp only [Act.put, setF, List.setIfInBounds_toArray, List.set_cons_zero, List.set_cons_succ])
      iterate 2 (refine tkF ?_ rfl (by kernel_rfl) (by kernel_rfl) (fun _ _ _ h => h) ?_ hHeld ?_; rotate_left; (· (intro w hSw; (try dsimp only at hSw); go_simp <;> with_reducible rfl)); simp only [Act.put, setF, List.setIfInBounds_toArray, List.set_cons_zero, List.set_cons_succ])
      iterate 5 (refine skF rfl (by kernel_rfl) (by kernel_rfl) (fun _ _ _ h => h) hHeld ?_; simp only [Act.put, setF, List.setIfInBounds_toArray, List.set_cons_zero, List.set_cons_succ])
      refine tkF ?_ rfl (by kernel_rfl) (by kernel_rfl) (fun _ _ _ h => h) ?_ hHeld ?_; rotate_left; (· (intro w hSw; (try dsimp only at hSw); go_simp <;> with_reducible rfl)); simp only [Act.put, setF, List.setIfInBounds_toArray, List.set_cons_zero, List.set_cons_succ]
      refine wpAnyH_done (by kernel_rfl) ?_ _
      clear hHeld
      go_wp2_with fail
      go_ret
      exact ⟨rfl, below_next bb4 q5⟩
     | true =>
      rw [hok] at RK
      replace RK := hide RK
      have hl1 := (nameOk_parts (rrOk_name hok)).1
      have hl2 := (nameOk_parts (unhide HOK)).1
      have UND := fun (w : World) (h1 : HasL w (.slice na rk.name.length nc) rk.name) (h2 : HasL w (.slice oa o.length oc) o) => l2under_has h1 h2 hl1 hl2
      have CN := fun (w : World) (h1 : HasL w (.slice na rk.name.length nc) rk.name) (h2 : HasL w (.slice oa o.length oc) o) => l2cmp_has h1 h2 (by omega) (by omega)
      have OKK := hide hok
      clear hl1 hl2
      cases hun : endsWith rk.name o with
      | false =>
       have hz := zoneOk_badS (unhide HOK) (show k < rs.length by rw [unhide HN]; exact hlt) (fun g => by have := g.under; rw [unhide HRK, hun] at this; cases this)
       rw [unhide HZZ] at hz
       subst hz
       rw [hun] at UND
       replace UND := hide UND
       replace CN := hide CN
       clear hun HZZ HSOA hok
       go_wp2_with fail
       clear c0 c1 c2 c3 c4 c5 c6 zc0 zc1
       refine wp_region_held_drew (S := (fun w' => (w'.cell? ⟨w.heap.size, 0, none⟩ = some (.slice oa o.length oc) ∧ w'.cell? ⟨w.heap.size, 1, none⟩ = some (.slice (some ⟨b, off, none⟩) m rc)) ∧ (w'.cell? ⟨wr.heap.size, 0, none⟩ = some (.slice na rk.name.length nc) ∧ w'.cell? ⟨wr.heap.size, 1, none⟩ = some (.int .i64 rk.type) ∧ w'.cell? ⟨wr.heap.size, 2, none⟩ = some (.int .i64 rk.ttl) ∧ w'.cell? ⟨wr.heap.size, 3, none⟩ = some (.int .i64 rk.addr) ∧ w'.cell? ⟨wr.heap.size, 4, none⟩ = some (.slice ta rk.to.length tc) ∧ w'.cell? ⟨wr.heap.size, 5, none⟩ = some (.slice xa rk.text.length xc) ∧ w'.cell? ⟨wr.heap.size, 6, none⟩ = some (.slice ia rk.nums.length ic)))) (by kernel_rfl) ⟨cells2 (unhide K4), cells7 (unhide X4)⟩ (fun hHeld => ?_)
       show wpAnyH _ _ _ _ _ 33 #[false, false, false, false, false, false, false, false, false, false, false, false, false, false, false, false, false, false, false, false, false, false, false, false, false, false, false, false, false, false, false, false, false] _ _
       refine tkF ?_ rfl (by kernel_rfl) (by kernel_rfl) (fun _ _ _ h => h) ?_ hHeld ?_; rotate_left; (· (intro w hSw; (try dsimp only at hSw); go_simp <;> with_reducible rfl)); simp only [Act.put, setF, List.setIfInBounds_toArray, List.set_cons_zero, List.set_cons_succ]
       refine runI 1 rfl (by kernel_rfl) (by kernel_rfl) (fun K hK => ?_)
       have HK := hide hK
       clear hK hHeld
       go_simp
       refine (unhide RK).mono ?_
       rintro e w5 ⟨rfl, q5⟩
       go_simp
       refine (unhide HK).out _ _ ⟨cells2 (block_kept q5 (unhide K4)), cells7 (block_kept q5 (unhide X4))⟩ (fun hHeld => ?_)
       clear HK K
       try simp only [List.setIfInBounds_toArray, List.set_cons_zero, List.set_cons_succ]
       iterate 6 (refine tkF ?_ rfl (by kernel_rfl) (by kernel_rfl) (fun _ _ _ h => h) ?_ hHeld ?_; rotate_left; (· (intro w hSw; (try dsimp only at hSw); go_simp <;> with_reducible rfl)); simp only [Act.put, setF, List.setIfInBounds_toArray, List.set_cons_zero, List.set_cons_succ])
       refine runI 8 rfl (by kernel_rfl) (by kernel_rfl) (fun K hK => ?_)
       have HK := hide hK
       clear hK hHeld
       go_simp
       refine (unhide UND _ ((unhide U4).below q5).name ((unhide H4).below q5).name).mono ?_
       rintro e w6 ⟨rfl, b6⟩
       have q6 := below_next q5 b6
       go_simp
       refine (unhide HK).out _ _ ⟨cells2 (block_kept q6 (unhide K4)), cells7 (block_kept q6 (unhide X4))⟩ (fun hHeld => ?_)
       clear HK K
       try simp only [List.setIfInBounds_toArray, List.set_cons_zero, List.set_cons_succ]
       iterate 3 (refine tkF ?_ rfl (by kernel_rfl) (by kernel_rfl) (fun _ _ _ h => h) ?_ hHeld ?_; rotate_left; (· (intro w hSw; (try dsimp only at hSw); go_simp <;> with_reducible rfl)); simp only [Act.put, setF, List.setIfInBounds_toArray, List.set_cons_zero, List.set_cons_succ])
       iterate 13 (refine skF rfl (by kernel_rfl) (by kernel_rfl) (fun _ _ _ h => h) hHeld ?_; simp only [Act.put, setF, List.setIfInBounds_toArray, List.set_cons_zero, List.set_cons_succ])
       iterate 2 (refine tkF ?_ rfl (by kernel_rfl) (by kernel_rfl) (fun _ _ _ h => h) ?_ hHeld ?_; rotate_left; (· (intro w hSw; (try dsimp only at hSw); go_simp <;> with_reducible rfl)); simp only [Act.put, setF, List.setIfInBounds_toArray, List.set_cons_zero, List.set_cons_succ])
       iterate 5 (refine skF rfl (by kernel_rfl) (by kernel_rfl) (fun _ _ _ h => h) hHeld ?_; simp only [Act.put, setF, List.setIfInBounds_toArray, List.set_cons_zero, List.set_cons_succ])
       refine tkF ?_ rfl (by kernel_rfl) (by kernel_rfl) (fun _ _ _ h => h) ?_ hHeld ?_; rotate_left; (· (intro w hSw; (try dsimp only at hSw); go_simp <;> with_reducible rfl)); simp only [Act.put, setF, List.setIfInBounds_toArray, List.set_cons_zero, List.set_cons_succ]
       refine wpAnyH_done (by kernel_rfl) ?_ _
       clear hHeld
       go_wp2_with fail
       go_ret
       exact ⟨rfl, below_next bb4 q6⟩
      | true =>
       rw [hun] at UND
       replace UND := hide UND
       replace CN := hide CN
       have HUN := hide hun
       have hss := unhide HSS
       have ALO := fun (w : World) (h : HasRs w (.slice (some ⟨b, off, none⟩) m rc) rs) => l5alone_has (i := k) h (by rw [unhide HN]; exact hlt) (by rw [unhide HN]; exact h60) (by rw [unhide HN]; exact hss)
       clear hun hok hss
       have AL := aloneB_iff rs k
       by_cases hk0 : k = 0
       ·subst hk0
        simp only [Nat.zero_mul, Nat.add_zero] at c0 c1 c2 c3 c4 c5 c6
        cases hal : aloneB rs (0) with
        | false =>
         have hz := zoneOk_badS (unhide HOK) (show 0 < rs.length by rw [unhide HN]; exact hlt) (fun g => by have := AL.2 g.alone; rw [hal] at this; cases this)
         rw [unhide HZZ] at hz
         subst hz
         rw [hal] at ALO
         replace ALO := hide ALO
         clear hal HZZ HSOA AL CN
         go_wp2_with fail
         clear c0 c1 c2 c3 c4 c5 c6 zc0 zc1
         refine wp_region_held_drew (S := (fun w' => (w'.cell? ⟨w.heap.size, 0, none⟩ = some (.slice oa o.length oc) ∧ w'.cell? ⟨w.heap.size, 1, none⟩ = some (.slice (some ⟨b, off, none⟩) m rc)) ∧ (w'.cell? ⟨wr.heap.size, 0, none⟩ = some (.slice na rk.name.length nc) ∧ w'.cell? ⟨wr.heap.size, 1, none⟩ = some (.int .i64 rk.type) ∧ w'.cell? ⟨wr.heap.size, 2, none⟩ = some (.int .i64 rk.ttl) ∧ w'.cell? ⟨wr.heap.size, 3, none⟩ = some (.int .i64 rk.addr) ∧ w'.cell? ⟨wr.heap.size, 4, none⟩ = some (.slice ta rk.to.length tc) ∧ w'.cell? ⟨wr.heap.size, 5, none⟩ = some (.slice xa rk.text.length xc) ∧ w'.cell? ⟨wr.heap.size, 6, none⟩ = some (.slice ia rk.nums.length ic)))) (by kernel_rfl) ⟨cells2 (unhide K4), cells7 (unhide X4)⟩ (fun hHeld => ?_)
         show wpAnyH _ _ _ _ _ 33 #[false, false, false, false, false, false, false, false, false, false, false, false, false, false, false, false, false, false, false, false, false, false, false, false, false, false, false, false, false, false, false, false, false] _ _
         refine tkF ?_ rfl (by kernel_rfl) (by kernel_rfl) (fun _ _ _ h => h) ?_ hHeld ?_; rotate_left; (· (intro w hSw; (try dsimp only at hSw); go_simp <;> with_reducible rfl)); simp only [Act.put, setF, List.setIfInBounds_toArray, List.set_cons_zero, List.set_cons_succ]
         refine runI 1 rfl (by kernel_rfl) (by kernel_rfl) (fun K hK => ?_)
         have HK := hide hK
         clear hK hHeld
         go_simp
         refine (unhide RK).mono ?_
         rintro e w5 ⟨rfl, q5⟩
         go_simp
         refine (unhide HK).out _ _ ⟨cells2 (block_kept q5 (unhide K4)), cells7 (block_kept q5 (unhide X4))⟩ (fun hHeld => ?_)
         clear HK K
         try simp only [List.setIfInBounds_toArray, List.set_cons_zero, List.set_cons_succ]
         iterate 6 (refine tkF ?_ rfl (by kernel_rfl) (by kernel_rfl) (fun _ _ _ h => h) ?_ hHeld ?_; rotate_left; (· (intro w hSw; (try dsimp only at hSw); go_simp <;> with_reducible rfl)); simp only [Act.put, setF, List.setIfInBounds_toArray, List.set_cons_zero, List.set_cons_succ])
         refine runI 8 rfl (by kernel_rfl) (by kernel_rfl) (fun K hK => ?_)
         have HK := hide hK
         clear hK hHeld
         go_simp
         refine (unhide UND _ ((unhide U4).below q5).name ((unhide H4).below q5).name).mono ?_
         rintro e w6 ⟨rfl, b6⟩
         have q6 := below_next q5 b6
         go_simp
         refine (unhide HK).out _ _ ⟨cells2 (block_kept q6 (unhide K4)), cells7 (block_kept q6 (unhide X4))⟩ (fun hHeld => ?_)
         clear HK K
         try simp only [List.setIfInBounds_toArray, List.set_cons_zero, List.set_cons_succ]
         iterate 3 (refine tkF ?_ rfl (by kernel_rfl) (by kernel_rfl) (fun _ _ _ h => h) ?_ hHeld ?_; rotate_left; (· (intro w hSw; (try dsimp only at hSw); go_simp <;> with_reducible rfl)); simp only [Act.put, setF, List.setIfInBounds_toArray, List.set_cons_zero, List.set_cons_succ])
         refine tkF (.int .i64 0) rfl (by kernel_rfl) (by kernel_rfl) (fun _ _ _ h => h) ?_ hHeld ?_; (· (intro w hSw; (try dsimp only at hSw); go_simp)); simp only [Act.put, setF, List.setIfInBounds_toArray, List.set_cons_zero, List.set_cons_succ]
         refine tkF (.bool false) rfl (by kernel_rfl) (by kernel_rfl) (fun _ _ _ h => h) ?_ hHeld ?_; (· (intro w hSw; (try dsimp only at hSw); go_simp)); simp only [Act.put, setF, List.setIfInBounds_toArray, List.set_cons_zero, List.set_cons_succ]
         refine tkF (.bool false) rfl (by kernel_rfl) (by kernel_rfl) (fun _ _ _ h => h) ?_ hHeld ?_; (· (intro w hSw; (try dsimp only at hSw); go_simp)); simp only [Act.put, setF, List.setIfInBounds_toArray, List.set_cons_zero, List.set_cons_succ]
         iterate 9 (refine skF rfl (by kernel_rfl) (by kernel_rfl) (fun _ _ _ h => h) hHeld ?_; simp only [Act.put, setF, List.setIfInBounds_toArray, List.set_cons_zero, List.set_cons_succ])
         iterate 6 (refine tkF ?_ rfl (by kernel_rfl) (by kernel_rfl) (fun _ _ _ h => h) ?_ hHeld ?_; rotate_left; (· (intro w hSw; (try dsimp only at hSw); go_simp <;> with_reducible rfl)); simp only [Act.put, setF, List.setIfInBounds_toArray, List.set_cons_zero, List.set_cons_succ])
         refine runI 30 rfl (by kernel_rfl) (by kernel_rfl) (fun K hK => ?_)
         have HK := hide hK
         clear hK hHeld
         go_simp
         refine (unhide ALO _ ((unhide H4).below q6).recs).mono ?_
         rintro e w8 ⟨rfl, b8⟩
         have q8 := below_next q6 b8
         go_simp
         refine (unhide HK).out _ _ ⟨cells2 (block_kept q8 (unhide K4)), cells7 (block_kept q8 (unhide X4))⟩ (fun hHeld => ?_)
         clear HK K
         try simp only [List.setIfInBounds_toArray, List.set_cons_zero, List.set_cons_succ]
         iterate 2 (refine tkF ?_ rfl (by kernel_rfl) (by kernel_rfl) (fun _ _ _ h => h) ?_ hHeld ?_; rotate_left; (· (intro w hSw; (try dsimp only at hSw); go_simp <;> with_reducible rfl)); simp only [Act.put, setF, List.setIfInBounds_toArray, List.set_cons_zero, List.set_cons_succ])
         refine wpAnyH_done (by kernel_rfl) ?_ _
         clear hHeld
         go_wp2_with fail
         go_ret
         exact ⟨rfl, below_next bb4 q8⟩
        | true =>
         have HALO := hide (AL.1 hal)
         rw [hal] at ALO
         replace ALO := hide ALO
         clear hal AL
         go_wp2_with fail
         clear c0 c1 c2 c3 c4 c5 c6 zc0 zc1
         refine wp_region_held_drew (S := (fun w' => (w'.cell? ⟨w.heap.size, 0, none⟩ = some (.slice oa o.length oc) ∧ w'.cell? ⟨w.heap.size, 1, none⟩ = some (.slice (some ⟨b, off, none⟩) m rc)) ∧ (w'.cell? ⟨wr.heap.size, 0, none⟩ = some (.slice na rk.name.length nc) ∧ w'.cell? ⟨wr.heap.size, 1, none⟩ = some (.int .i64 rk.type) ∧ w'.cell? ⟨wr.heap.size, 2, none⟩ = some (.int .i64 rk.ttl) ∧ w'.cell? ⟨wr.heap.size, 3, none⟩ = some (.int .i64 rk.addr) ∧ w'.cell? ⟨wr.heap.size, 4, none⟩ = some (.slice ta rk.to.length tc) ∧ w'.cell? ⟨wr.heap.size, 5, none⟩ = some (.slice xa rk.text.length xc) ∧ w'.cell? ⟨wr.heap.size, 6, none⟩ = some (.slice ia rk.nums.length ic)))) (by kernel_rfl) ⟨cells2 (unhide K4), cells7 (unhide X4)⟩ (fun hHeld => ?_)
         show wpAnyH _ _ _ _ _ 33 #[false, false, false, false, false, false, false, false, false, false, false, false, false, false, false, false, false, false, false, false, false, false, false, false, false, false, false, false, false, false, false, false, false] _ _
         refine tkF ?_ rfl (by kernel_rfl) (by kernel_rfl) (fun _ _ _ h => h) ?_ hHeld ?_; rotate_left; (· (intro w hSw; (try dsimp only at hSw); go_simp <;> with_reducible rfl)); simp only [Act.put, setF, List.setIfInBounds_toArray, List.set_cons_zero, List.set_cons_succ]
         refine runI 1 rfl (by kernel_rfl) (by kernel_rfl) (fun K hK => ?_)
         have HK := hide hK
         clear hK hHeld
         go_simp
         refine (unhide RK).mono ?_
         rintro e w5 ⟨rfl, q5⟩
         go_simp
         refine (unhide HK).out _ _ ⟨cells2 (block_kept q5 (unhide K4)), cells7 (block_kept q5 (unhide X4))⟩ (fun hHeld => ?_)
         clear HK K
         try simp only [List.setIfInBounds_toArray, List.set_cons_zero, List.set_cons_succ]
         iterate 6 (refine tkF ?_ rfl (by kernel_rfl) (by kernel_rfl) (fun _ _ _ h => h) ?_ hHeld ?_; rotate_left; (· (intro w hSw; (try dsimp only at hSw); go_simp <;> with_reducible rfl)); simp only [Act.put, setF, List.setIfInBounds_toArray, List.set_cons_zero, List.set_cons_succ])
         refine runI 8 rfl (by kernel_rfl) (by kernel_rfl) (fun K hK => ?_)
         have HK := hide hK
         clear hK hHeld
         go_simp
         refine (unhide UND _ ((unhide U4).below q5).name ((unhide H4).below q5).name).mono ?_
         rintro e w6 ⟨rfl, b6⟩
         have q6 := below_next q5 b6
         go_simp
         refine (unhide HK).out _ _ ⟨cells2 (block_kept q6 (unhide K4)), cells7 (block_kept q6 (unhide X4))⟩ (fun hHeld => ?_)
         clear HK K
         try simp only [List.setIfInBounds_toArray, List.set_cons_zero, List.set_cons_succ]
         iterate 3 (refine tkF ?_ rfl (by kernel_rfl) (by kernel_rfl) (fun _ _ _ h => h) ?_ hHeld ?_; rotate_left; (· (intro w hSw; (try dsimp only at hSw); go_simp <;> with_reducible rfl)); simp only [Act.put, setF, List.setIfInBounds_toArray, List.set_cons_zero, List.set_cons_succ])
         refine tkF (.int .i64 0) rfl (by kernel_rfl) (by kernel_rfl) (fun _ _ _ h => h) ?_ hHeld ?_; (· (intro w hSw; (try dsimp only at hSw); go_simp)); simp only [Act.put, setF, List.setIfInBounds_toArray, List.set_cons_zero, List.set_cons_succ]
         refine tkF (.bool false) rfl (by kernel_rfl) (by kernel_rfl) (fun _ _ _ h => h) ?_ hHeld ?_; (· (intro w hSw; (try dsimp only at hSw); go_simp)); simp only [Act.put, setF, List.setIfInBounds_toArray, List.set_cons_zero, List.set_cons_succ]
         refine tkF (.bool false) rfl (by kernel_rfl) (by kernel_rfl) (fun _ _ _ h => h) ?_ hHeld ?_; (· (intro w hSw; (try dsimp only at hSw); go_simp)); simp only [Act.put, setF, List.setIfInBounds_toArray, List.set_cons_zero, List.set_cons_succ]
         iterate 9 (refine skF rfl (by kernel_rfl) (by kernel_rfl) (fun _ _ _ h => h) hHeld ?_; simp only [Act.put, setF, List.setIfInBounds_toArray, List.set_cons_zero, List.set_cons_succ])
         iterate 6 (refine tkF ?_ rfl (by kernel_rfl) (by kernel_rfl) (fun _ _ _ h => h) ?_ hHeld ?_; rotate_left; (· (intro w hSw; (try dsimp only at hSw); go_simp <;> with_reducible rfl)); simp only [Act.put, setF, List.setIfInBounds_toArray, List.set_cons_zero, List.set_cons_succ])
         refine runI 30 rfl (by kernel_rfl) (by kernel_rfl) (fun K hK => ?_)
         have HK := hide hK
         clear hK hHeld
         go_simp
         refine (unhide ALO _ ((unhide H4).below q6).recs).mono ?_
         rintro e w8 ⟨rfl, b8⟩
         have q8 := below_next q6 b8
         go_simp
         refine (unhide HK).out _ _ ⟨cells2 (block_kept q8 (unhide K4)), cells7 (block_kept q8 (unhide X4))⟩ (fun hHeld => ?_)
         clear HK K
         try simp only [List.setIfInBounds_toArray, List.set_cons_zero, List.set_cons_succ]
         iterate 2 (refine tkF ?_ rfl (by kernel_rfl) (by kernel_rfl) (fun _ _ _ h => h) ?_ hHeld ?_; rotate_left; (· (intro w hSw; (try dsimp only at hSw); go_simp <;> with_reducible rfl)); simp only [Act.put, setF, List.setIfInBounds_toArray, List.set_cons_zero, List.set_cons_succ])
         refine wpAnyH_done (by kernel_rfl) ?_ _
         clear hHeld
         have hsoa := unhide HSOA
         have X8 := hide (block_kept q8 (unhide X4))
         have K8 := hide (block_kept q8 (unhide K4))
         have N8 := hide (((unhide U4).below q8).name)
         have M8 := hide (((unhide H4).below q8).name)
         have bw8 := below_next bw4 q8
         have bb8 := below_next bb4 q8
         have hgd : ∀ (hso : rk.type = 6 → cmpN rk.name o = 0), ∀ j, j < 0 + 1 → GoodS o rs j := fun hso j hj => by
          by_cases e : j = 0
          ·subst e
           exact ⟨by rw [unhide HRK]; exact unhide OKK, by rw [unhide HRK]; exact unhide HUN, fun q => absurd q (by omega), unhide HALO, by rw [unhide HRK]; exact hso⟩
          ·exact unhide hall j (by omega)
         have HGD := hide hgd
         clear HSOA hgd
         obtain ⟨p0, p1, p2, p3, p4, p5, p6⟩ := cells7 (unhide X8)
         obtain ⟨r0, r1⟩ := cells2 (unhide K8)
         clear X4 K4 U4 H4 RK UND ALO
         by_cases h6 : rk.type = 6
         ·rw [if_pos h6] at hsoa
          have e6 : (rk.type == 6) = true := by rw [h6]; rfl
          have HS1 := hide hsoa
          have H6 := hide h6
          clear h6 hsoa
          by_cases hc0 : cmpN rk.name o = 0
          ·have CN0 := unhide CN
           rw [hc0] at CN0
           have G9 := hide (unhide HGD (fun _ => hc0))
           clear hc0 CN HGD
           replace CN0 := hide CN0
           go_wp2_with fail
           clear p0 p1 p2 p3 p4 p5 p6 r0 r1
           refine (unhide CN0 _ (unhide N8) (unhide M8)).mono ?_
           rintro e w9 ⟨rfl, b9⟩
           have bw9 := below_next bw8 b9
           obtain ⟨r0, r1⟩ := cells2 (block_kept b9 (unhide K8))
           clear b9
           go_wp2_with fail
           exact ⟨⟨0 + 1, by omega, by go_num, by rw [unhide HS1]; go_num, G9, bw9⟩, by simp [intOf]; omega⟩
          ·have hz := zoneOk_badS (unhide HOK) (show 0 < rs.length by rw [unhide HN]; exact hlt) (fun g => hc0 (by have := g.soa; rw [unhide HRK] at this; exact this (unhide H6)))
           rw [unhide HZZ] at hz
           subst hz
           have e0 : (cmpN rk.name o != 0) = true := by rw [bne_iff_ne]; exact hc0
           generalize cmpN rk.name o = c9 at *
           clear hc0 HZZ HGD HS1
           go_wp2_with fail
           clear p0 p1 p2 p3 p4 p5 p6 r0 r1
           refine (unhide CN _ (unhide N8) (unhide M8)).mono ?_
           rintro e w9 ⟨rfl, b9⟩
           go_wp2_with fail
           go_ret
           exact ⟨rfl, below_next bb8 b9⟩
         ·rw [if_neg h6, Nat.add_zero] at hsoa
          have e6 : (rk.type == 6) = false := by rw [beq_eq_false_iff_ne]; exact h6
          have HS1 := hide hsoa
          have G9 := hide (unhide HGD (fun q => absurd q h6))
          clear h6 hsoa HGD
          go_wp2_with fail
          exact ⟨⟨0 + 1, by omega, by go_num, by first | (rw [unhide HS1]; done) | (rw [unhide HS1]; rfl), G9, bw8⟩, by simp [intOf]; omega⟩
       ·obtain ⟨k0, rfl⟩ : ∃ k0, k = k0 + 1 := ⟨k - 1, by omega⟩
        clear hk0
        have hk0' : (0 : Int) < (k0 + 1 : Nat) := by omega
        have hwr : IntKind.i64.wrap (k0 : Int) = (k0 : Nat) := by have := hlt; exact wrap_small (by omega) (by omega)
        have hkm : (k0 : Int) < m := by omega
        obtain ⟨b', off', na', nc', ta', tc', xa', xc', ia', ic', hbe, hbl', hc', hu'⟩ := (unhide H4).recs.here (k := k0) (by rw [unhide HN]; omega)
        simp only [Option.some.injEq, Addr.mk.injEq, and_true] at hbe
        obtain ⟨rfl, rfl⟩ := hbe
        have okp := (unhide hall k0 (by omega)).ok
        generalize hrp : rs.getD k0 recZ = rp at *
        have HRP := hide hrp
        have HC4 := hide hc'
        have U4' := hide hu'
        have CMP := fun (w : World) (h1 : HasR w (.slice na' rp.name.length nc') (.slice ta' rp.to.length tc') (.slice xa' rp.text.length xc') (.slice ia' rp.nums.length ic') rp) (h2 : HasR w (.slice na rk.name.length nc) (.slice ta rk.to.length tc) (.slice xa rk.text.length xc) (.slice ia rk.nums.length ic) rk) => l3cmp_has h1 h2 okp (unhide OKK)
        clear hc' hu' okp hrp
        by_cases hlt0 : cmpR rp rk < 0
        ·have hnx : 0 < k0 + 1 → cmpR (rs.getD (k0 + 1 - 1) recZ) (rs.getD (k0 + 1) recZ) < 0 := fun _ => by rw [show k0 + 1 - 1 = k0 by omega, unhide HRP, unhide HRK]; exact hlt0
         have HNX := hide hnx
         have hge : ¬ (0 ≤ cmpR rp rk) := by omega
         generalize cmpR rp rk = cc at *
         replace CMP := hide CMP
         clear hnx hlt0
         cases hal : aloneB rs (k0 + 1) with
         | false =>
          have hz := zoneOk_badS (unhide HOK) (show k0 + 1 < rs.length by rw [unhide HN]; exact hlt) (fun g => by have := AL.2 g.alone; rw [hal] at this; cases this)
          rw [unhide HZZ] at hz
          subst hz
          rw [hal] at ALO
          replace ALO := hide ALO
          clear hal HZZ HSOA AL CN
          go_wp2_with fail
          clear c0 c1 c2 c3 c4 c5 c6 zc0 zc1
          refine wp_region_held_drew (S := (fun w' => ((w'.cell? ⟨w.heap.size, 0, none⟩ = some (.slice oa o.length oc) ∧ w'.cell? ⟨w.heap.size, 1, none⟩ = some (.slice (some ⟨b, off, none⟩) m rc)) ∧ (w'.cell? ⟨wr.heap.size, 0, none⟩ = some (.slice na rk.name.length nc) ∧ w'.cell? ⟨wr.heap.size, 1, none⟩ = some (.int .i64 rk.type) ∧ w'.cell? ⟨wr.heap.size, 2, none⟩ = some (.int .i64 rk.ttl) ∧ w'.cell? ⟨wr.heap.size, 3, none⟩ = some (.int .i64 rk.addr) ∧ w'.cell? ⟨wr.heap.size, 4, none⟩ = some (.slice ta rk.to.length tc) ∧ w'.cell? ⟨wr.heap.size, 5, none⟩ = some (.slice xa rk.text.length xc) ∧ w'.cell? ⟨wr.heap.size, 6, none⟩ = some (.slice ia rk.nums.length ic))) ∧ (w'.cell? ⟨b, off + k0 * 7, none⟩ = some (.slice na' rp.name.length nc') ∧ w'.cell? ⟨b, off + k0 * 7 + 1, none⟩ = some (.int .i64 rp.type) ∧ w'.cell? ⟨b, off + k0 * 7 + 2, none⟩ = some (.int .i64 rp.ttl) ∧ w'.cell? ⟨b, off + k0 * 7 + 3, none⟩ = some (.int .i64 rp.addr) ∧ w'.cell? ⟨b, off + k0 * 7 + 4, none⟩ = some (.slice ta' rp.to.length tc') ∧ w'.cell? ⟨b, off + k0 * 7 + 5, none⟩ = some (.slice xa' rp.text.length xc') ∧ w'.cell? ⟨b, off + k0 * 7 + 6, none⟩ = some (.slice ia' rp.nums.length ic')))) (by kernel_rfl) ⟨⟨cells2 (unhide K4), cells7 (unhide X4)⟩, range7 (unhide HC4)⟩ (fun hHeld => ?_)
          show wpAnyH _ _ _ _ _ 33 #[false, false, false, false, false, false, false, false, false, false, false, false, false, false, false, false, false, false, false, false, false, false, false, false, false, false, false, false, false, false, false, false, false] _ _
          refine tkF ?_ rfl (by kernel_rfl) (by kernel_rfl) (fun _ _ _ h => h) ?_ hHeld ?_; rotate_left; (· (intro w hSw; (try dsimp only at hSw); go_simp <;> with_reducible rfl)); simp only [Act.put, setF, List.setIfInBounds_toArray, List.set_cons_zero, List.set_cons_succ]
          refine runI 1 rfl (by kernel_rfl) (by kernel_rfl) (fun K hK => ?_)
          have HK := hide hK
          clear hK hHeld
          go_simp
          refine (unhide RK).mono ?_
          rintro e w5 ⟨rfl, q5⟩
          go_simp
          refine (unhide HK).out _ _ ⟨⟨cells2 (block_kept q5 (unhide K4)), cells7 (block_kept q5 (unhide X4))⟩, range7 (range_below (unhide HC4) hbl' q5)⟩ (fun hHeld => ?_)
          clear HK K
          try simp only [List.setIfInBounds_toArray, List.set_cons_zero, List.set_cons_succ]
          iterate 6 (refine tkF ?_ rfl (by kernel_rfl) (by kernel_rfl) (fun _ _ _ h => h) ?_ hHeld ?_; rotate_left; (· (intro w hSw; (try dsimp only at hSw); go_simp <;> with_reducible rfl)); simp only [Act.put, setF, List.setIfInBounds_toArray, List.set_cons_zero, List.set_cons_succ])
          refine runI 8 rfl (by kernel_rfl) (by kernel_rfl) (fun K hK => ?_)
          have HK := hide hK
          clear hK hHeld
          go_simp
          refine (unhide UND _ ((unhide U4).below q5).name ((unhide H4).below q5).name).mono ?_
          rintro e w6 ⟨rfl, b6⟩
          have q6 := below_next q5 b6
          go_simp
          refine (unhide HK).out _ _ ⟨⟨cells2 (block_kept q6 (unhide K4)), cells7 (block_kept q6 (unhide X4))⟩, range7 (range_below (unhide HC4) hbl' q6)⟩ (fun hHeld => ?_)
          clear HK K
          try simp only [List.setIfInBounds_toArray, List.set_cons_zero, List.set_cons_succ]
          iterate 4 (refine tkF ?_ rfl (by kernel_rfl) (by kernel_rfl) (fun _ _ _ h => h) ?_ hHeld ?_; rotate_left; (· (intro w hSw; (try dsimp only at hSw); go_simp <;> with_reducible rfl)); simp only [Act.put, setF, List.setIfInBounds_toArray, List.set_cons_zero, List.set_cons_succ])
          refine tkF (.bool true) rfl (by kernel_rfl) (by kernel_rfl) (fun _ _ _ h => h) ?_ hHeld ?_; (· (intro w hSw; (try dsimp only at hSw); go_simp)); simp only [Act.put, setF, List.setIfInBounds_toArray, List.set_cons_zero, List.set_cons_succ]
          refine tkF (.bool true) rfl (by kernel_rfl) (by kernel_rfl) (fun _ _ _ h => h) ?_ hHeld ?_; (· (intro w hSw; (try dsimp only at hSw); go_simp)); simp only [Act.put, setF, List.setIfInBounds_toArray, List.set_cons_zero, List.set_cons_succ]
          iterate 2 (refine tkF ?_ rfl (by kernel_rfl) (by kernel_rfl) (fun _ _ _ h => h) ?_ hHeld ?_; rotate_left; (· (intro w hSw; (try dsimp only at hSw); go_simp <;> with_reducible rfl)); simp only [Act.put, setF, List.setIfInBounds_toArray, List.set_cons_zero, List.set_cons_succ])
          refine tkF (.int .i64 (k0 + 1 : Nat)) rfl (by kernel_rfl) (by kernel_rfl) (fun _ _ _ h => h) ?_ hHeld ?_; (· (intro w hSw; (try dsimp only at hSw); go_simp)); simp only [Act.put, setF, List.setIfInBounds_toArray, List.set_cons_zero, List.set_cons_succ]
          refine tkF (.int .i64 (k0 : Nat)) rfl (by kernel_rfl) (by kernel_rfl) (fun _ _ _ h => h) ?_ hHeld ?_; (· (intro w hSw; (try dsimp only at hSw); go_simp)); simp only [Act.put, setF, List.setIfInBounds_toArray, List.set_cons_zero, List.set_cons_succ]
          refine tkF (.pointer (some ⟨b, off + k0 * 7, none⟩)) rfl (by kernel_rfl) (by kernel_rfl) (fun _ _ _ h => h) ?_ hHeld ?_; (· (intro w hSw; (try dsimp only at hSw); go_simp)); simp only [Act.put, setF, List.setIfInBounds_toArray, List.set_cons_zero, List.set_cons_succ]
          iterate 2 (refine tkF ?_ rfl (by kernel_rfl) (by kernel_rfl) (fun _ _ _ h => h) ?_ hHeld ?_; rotate_left; (· (intro w hSw; (try dsimp only at hSw); go_simp <;> with_reducible rfl)); simp only [Act.put, setF, List.setIfInBounds_toArray, List.set_cons_zero, List.set_cons_succ])
          refine runI 22 rfl (by kernel_rfl) (by kernel_rfl) (fun K hK => ?_)
          have HK := hide hK
          clear hK hHeld
          go_simp
          refine (unhide CMP _ ((unhide U4').below q6) ((unhide U4).below q6)).mono ?_
          rintro e w7 ⟨rfl, b7⟩
          have q7 := below_next q6 b7
          go_simp
          refine (unhide HK).out _ _ ⟨⟨cells2 (block_kept q7 (unhide K4)), cells7 (block_kept q7 (unhide X4))⟩, range7 (range_below (unhide HC4) hbl' q7)⟩ (fun hHeld => ?_)
          clear HK K
          try simp only [List.setIfInBounds_toArray, List.set_cons_zero, List.set_cons_succ]
          refine tkF (.bool false) rfl (by kernel_rfl) (by kernel_rfl) (fun _ _ _ h => h) ?_ hHeld ?_; (· (intro w hSw; (try dsimp only at hSw); go_simp)); simp only [Act.put, setF, List.setIfInBounds_toArray, List.set_cons_zero, List.set_cons_succ]
          refine tkF (.bool false) rfl (by kernel_rfl) (by kernel_rfl) (fun _ _ _ h => h) ?_ hHeld ?_; (· (intro w hSw; (try dsimp only at hSw); go_simp)); simp only [Act.put, setF, List.setIfInBounds_toArray, List.set_cons_zero, List.set_cons_succ]
          iterate 5 (refine tkF ?_ rfl (by kernel_rfl) (by kernel_rfl) (fun _ _ _ h => h) ?_ hHeld ?_; rotate_left; (· (intro w hSw; (try dsimp only at hSw); go_simp <;> with_reducible rfl)); simp only [Act.put, setF, List.setIfInBounds_toArray, List.set_cons_zero, List.set_cons_succ])
          refine runI 30 rfl (by kernel_rfl) (by kernel_rfl) (fun K hK => ?_)
          have HK := hide hK
          clear hK hHeld
          go_simp
          refine (unhide ALO _ ((unhide H4).below q7).recs).mono ?_
          rintro e w8 ⟨rfl, b8⟩
          have q8 := below_next q7 b8
          go_simp
          refine (unhide HK).out _ _ ⟨⟨cells2 (block_kept q8 (unhide K4)), cells7 (block_kept q8 (unhide X4))⟩, range7 (range_below (unhide HC4) hbl' q8)⟩ (fun hHeld => ?_)
          clear HK K
          try simp only [List.setIfInBounds_toArray, List.set_cons_zero, List.set_cons_succ]
          iterate 2 (refine tkF ?_ rfl (by kernel_rfl) (by kernel_rfl) (fun _ _ _ h => h) ?_ hHeld ?_; rotate_left; (· (intro w hSw; (try dsimp only at hSw); go_simp <;> with_reducible rfl)); simp only [Act.put, setF, List.setIfInBounds_toArray, List.set_cons_zero, List.set_cons_succ])
          refine wpAnyH_done (by kernel_rfl) ?_ _
          clear hHeld
          go_wp2_with fail
          go_ret
          exact ⟨rfl, below_next bb4 q8⟩
         | true =>
          have HALO := hide (AL.1 hal)
          rw [hal] at ALO
          replace ALO := hide ALO
          clear hal AL
          go_wp2_with fail
          clear c0 c1 c2 c3 c4 c5 c6 zc0 zc1
          refine wp_region_held_drew (S := (fun w' => ((w'.cell? ⟨w.heap.size, 0, none⟩ = some (.slice oa o.length oc) ∧ w'.cell? ⟨w.heap.size, 1, none⟩ = some (.slice (some ⟨b, off, none⟩) m rc)) ∧ (w'.cell? ⟨wr.heap.size, 0, none⟩ = some (.slice na rk.name.length nc) ∧ w'.cell? ⟨wr.heap.size, 1, none⟩ = some (.int .i64 rk.type) ∧ w'.cell? ⟨wr.heap.size, 2, none⟩ = some (.int .i64 rk.ttl) ∧ w'.cell? ⟨wr.heap.size, 3, none⟩ = some (.int .i64 rk.addr) ∧ w'.cell? ⟨wr.heap.size, 4, none⟩ = some (.slice ta rk.to.length tc) ∧ w'.cell? ⟨wr.heap.size, 5, none⟩ = some (.slice xa rk.text.length xc) ∧ w'.cell? ⟨wr.heap.size, 6, none⟩ = some (.slice ia rk.nums.length ic))) ∧ (w'.cell? ⟨b, off + k0 * 7, none⟩ = some (.slice na' rp.name.length nc') ∧ w'.cell? ⟨b, off + k0 * 7 + 1, none⟩ = some (.int .i64 rp.type) ∧ w'.cell? ⟨b, off + k0 * 7 + 2, none⟩ = some (.int .i64 rp.ttl) ∧ w'.cell? ⟨b, off + k0 * 7 + 3, none⟩ = some (.int .i64 rp.addr) ∧ w'.cell? ⟨b, off + k0 * 7 + 4, none⟩ = some (.slice ta' rp.to.length tc') ∧ w'.cell? ⟨b, off + k0 * 7 + 5, none⟩ = some (.slice xa' rp.text.length xc') ∧ w'.cell? ⟨b, off + k0 * 7 + 6, none⟩ = some (.slice ia' rp.nums.length ic')))) (by kernel_rfl) ⟨⟨cells2 (unhide K4), cells7 (unhide X4)⟩, range7 (unhide HC4)⟩ (fun hHeld => ?_)
          show wpAnyH _ _ _ _ _ 33 #[false, false, false, false, false, false, false, false, false, false, false, false, false, false, false, false, false, false, false, false, false, false, false, false, false, false, false, false, false, false, false, false, false] _ _
          refine tkF ?_ rfl (by kernel_rfl) (by kernel_rfl) (fun _ _ _ h => h) ?_ hHeld ?_; rotate_left; (· (intro w hSw; (try dsimp only at hSw); go_simp <;> with_reducible rfl)); simp only [Act.put, setF, List.setIfInBounds_toArray, List.set_cons_zero, List.set_cons_succ]
          refine runI 1 rfl (by kernel_rfl) (by kernel_rfl) (fun K hK => ?_)
          have HK := hide hK
          clear hK hHeld
          go_simp
          refine (unhide RK).mono ?_
          rintro e w5 ⟨rfl, q5⟩
          go_simp
          refine (unhide HK).out _ _ ⟨⟨cells2 (block_kept q5 (unhide K4)), cells7 (block_kept q5 (unhide X4))⟩, range7 (range_below (unhide HC4) hbl' q5)⟩ (fun hHeld => ?_)
          clear HK K
          try simp only [List.setIfInBounds_toArray, List.set_cons_zero, List.set_cons_succ]
          iterate 6 (refine tkF ?_ rfl (by kernel_rfl) (by kernel_rfl) (fun _ _ _ h => h) ?_ hHeld ?_; rotate_left; (· (intro w hSw; (try dsimp only at hSw); go_simp <;> with_reducible rfl)); simp only [Act.put, setF, List.setIfInBounds_toArray, List.set_cons_zero, List.set_cons_succ])
          refine runI 8 rfl (by kernel_rfl) (by kernel_rfl) (fun K hK => ?_)
          have HK := hide hK
          clear hK hHeld
          go_simp
          refine (unhide UND _ ((unhide U4).below q5).name ((unhide H4).below q5).name).mono ?_
          rintro e w6 ⟨rfl, b6⟩
          have q6 := below_next q5 b6
          go_simp
          refine (unhide HK).out _ _ ⟨⟨cells2 (block_kept q6 (unhide K4)), cells7 (block_kept q6 (unhide X4))⟩, range7 (range_below (unhide HC4) hbl' q6)⟩ (fun hHeld => ?_)
          clear HK K
          try simp only [List.setIfInBounds_toArray, List.set_cons_zero, List.set_cons_succ]
          iterate 4 (refine tkF ?_ rfl (by kernel_rfl) (by kernel_rfl) (fun _ _ _ h => h) ?_ hHeld ?_; rotate_left; (· (intro w hSw; (try dsimp only at hSw); go_simp <;> with_reducible rfl)); simp only [Act.put, setF, List.setIfInBounds_toArray, List.set_cons_zero, List.set_cons_succ])
          refine tkF (.bool true) rfl (by kernel_rfl) (by kernel_rfl) (fun _ _ _ h => h) ?_ hHeld ?_; (· (intro w hSw; (try dsimp only at hSw); go_simp)); simp only [Act.put, setF, List.setIfInBounds_toArray, List.set_cons_zero, List.set_cons_succ]
          refine tkF (.bool true) rfl (by kernel_rfl) (by kernel_rfl) (fun _ _ _ h => h) ?_ hHeld ?_; (· (intro w hSw; (try dsimp only at hSw); go_simp)); simp only [Act.put, setF, List.setIfInBounds_toArray, List.set_cons_zero, List.set_cons_succ]
          iterate 2 (refine tkF ?_ rfl (by kernel_rfl) (by kernel_rfl) (fun _ _ _ h => h) ?_ hHeld ?_; rotate_left; (· (intro w hSw; (try dsimp only at hSw); go_simp <;> with_reducible rfl)); simp only [Act.put, setF, List.setIfInBounds_toArray, List.set_cons_zero, List.set_cons_succ])
          refine tkF (.int .i64 (k0 + 1 : Nat)) rfl (by kernel_rfl) (by kernel_rfl) (fun _ _ _ h => h) ?_ hHeld ?_; (· (intro w hSw; (try dsimp only at hSw); go_simp)); simp only [Act.put, setF, List.setIfInBounds_toArray, List.set_cons_zero, List.set_cons_succ]
          refine tkF (.int .i64 (k0 : Nat)) rfl (by kernel_rfl) (by kernel_rfl) (fun _ _ _ h => h) ?_ hHeld ?_; (· (intro w hSw; (try dsimp only at hSw); go_simp)); simp only [Act.put, setF, List.setIfInBounds_toArray, List.set_cons_zero, List.set_cons_succ]
          refine tkF (.pointer (some ⟨b, off + k0 * 7, none⟩)) rfl (by kernel_rfl) (by kernel_rfl) (fun _ _ _ h => h) ?_ hHeld ?_; (· (intro w hSw; (try dsimp only at hSw); go_simp)); simp only [Act.put, setF, List.setIfInBounds_toArray, List.set_cons_zero, List.set_cons_succ]
          iterate 2 (refine tkF ?_ rfl (by kernel_rfl) (by kernel_rfl) (fun _ _ _ h => h) ?_ hHeld ?_; rotate_left; (· (intro w hSw; (try dsimp only at hSw); go_simp <;> with_reducible rfl)); simp only [Act.put, setF, List.setIfInBounds_toArray, List.set_cons_zero, List.set_cons_succ])
          refine runI 22 rfl (by kernel_rfl) (by kernel_rfl) (fun K hK => ?_)
          have HK := hide hK
          clear hK hHeld
          go_simp
          refine (unhide CMP _ ((unhide U4').below q6) ((unhide U4).below q6)).mono ?_
          rintro e w7 ⟨rfl, b7⟩
          have q7 := below_next q6 b7
          go_simp
          refine (unhide HK).out _ _ ⟨⟨cells2 (block_kept q7 (unhide K4)), cells7 (block_kept q7 (unhide X4))⟩, range7 (range_below (unhide HC4) hbl' q7)⟩ (fun hHeld => ?_)
          clear HK K
          try simp only [List.setIfInBounds_toArray, List.set_cons_zero, List.set_cons_succ]
          refine tkF (.bool false) rfl (by kernel_rfl) (by kernel_rfl) (fun _ _ _ h => h) ?_ hHeld ?_; (· (intro w hSw; (try dsimp only at hSw); go_simp)); simp only [Act.put, setF, List.setIfInBounds_toArray, List.set_cons_zero, List.set_cons_succ]
          refine tkF (.bool false) rfl (by kernel_rfl) (by kernel_rfl) (fun _ _ _ h => h) ?_ hHeld ?_; (· (intro w hSw; (try dsimp only at hSw); go_simp)); simp only [Act.put, setF, List.setIfInBounds_toArray, List.set_cons_zero, List.set_cons_succ]
          iterate 5 (refine tkF ?_ rfl (by kernel_rfl) (by kernel_rfl) (fun _ _ _ h => h) ?_ hHeld ?_; rotate_left; (· (intro w hSw; (try dsimp only at hSw); go_simp <;> with_reducible rfl)); simp only [Act.put, setF, List.setIfInBounds_toArray, List.set_cons_zero, List.set_cons_succ])
          refine runI 30 rfl (by kernel_rfl) (by kernel_rfl) (fun K hK => ?_)
          have HK := hide hK
          clear hK hHeld
          go_simp
          refine (unhide ALO _ ((unhide H4).below q7).recs).mono ?_
          rintro e w8 ⟨rfl, b8⟩
          have q8 := below_next q7 b8
          go_simp
          refine (unhide HK).out _ _ ⟨⟨cells2 (block_kept q8 (unhide K4)), cells7 (block_kept q8 (unhide X4))⟩, range7 (range_below (unhide HC4) hbl' q8)⟩ (fun hHeld => ?_)
          clear HK K
          try simp only [List.setIfInBounds_toArray, List.set_cons_zero, List.set_cons_succ]
          iterate 2 (refine tkF ?_ rfl (by kernel_rfl) (by kernel_rfl) (fun _ _ _ h => h) ?_ hHeld ?_; rotate_left; (· (intro w hSw; (try dsimp only at hSw); go_simp <;> with_reducible rfl)); simp only [Act.put, setF, List.setIfInBounds_toArray, List.set_cons_zero, List.set_cons_succ])
          refine wpAnyH_done (by kernel_rfl) ?_ _
          clear hHeld
          have hsoa := unhide HSOA
          have X8 := hide (block_kept q8 (unhide X4))
          have K8 := hide (block_kept q8 (unhide K4))
          have N8 := hide (((unhide U4).below q8).name)
          have M8 := hide (((unhide H4).below q8).name)
          have bw8 := below_next bw4 q8
          have bb8 := below_next bb4 q8
          have hgd : ∀ (hso : rk.type = 6 → cmpN rk.name o = 0), ∀ j, j < k0 + 1 + 1 → GoodS o rs j := fun hso j hj => by
           by_cases e : j = k0 + 1
           ·subst e
            exact ⟨by rw [unhide HRK]; exact unhide OKK, by rw [unhide HRK]; exact unhide HUN, unhide HNX, unhide HALO, by rw [unhide HRK]; exact hso⟩
           ·exact unhide hall j (by omega)
          have HGD := hide hgd
          clear HSOA hgd
          obtain ⟨p0, p1, p2, p3, p4, p5, p6⟩ := cells7 (unhide X8)
          obtain ⟨r0, r1⟩ := cells2 (unhide K8)
          clear X4 K4 U4 H4 RK UND ALO
          by_cases h6 : rk.type = 6
          ·rw [if_pos h6] at hsoa
           have e6 : (rk.type == 6) = true := by rw [h6]; rfl
           have HS1 := hide hsoa
           have H6 := hide h6
           clear h6 hsoa
           by_cases hc0 : cmpN rk.name o = 0
           ·have CN0 := unhide CN
            rw [hc0] at CN0
            have G9 := hide (unhide HGD (fun _ => hc0))
            clear hc0 CN HGD
            replace CN0 := hide CN0
            go_wp2_with fail
            clear p0 p1 p2 p3 p4 p5 p6 r0 r1
            refine (unhide CN0 _ (unhide N8) (unhide M8)).mono ?_
            rintro e w9 ⟨rfl, b9⟩
            have bw9 := below_next bw8 b9
            obtain ⟨r0, r1⟩ := cells2 (block_kept b9 (unhide K8))
            clear b9
            go_wp2_with fail
            exact ⟨⟨k0 + 1 + 1, by omega, by go_num, by rw [unhide HS1]; go_num, G9, bw9⟩, by simp [intOf]; omega⟩
           ·have hz := zoneOk_badS (unhide HOK) (show k0 + 1 < rs.length by rw [unhide HN]; exact hlt) (fun g => hc0 (by have := g.soa; rw [unhide HRK] at this; exact this (unhide H6)))
            rw [unhide HZZ] at hz
            subst hz
            have e0 : (cmpN rk.name o != 0) = true := by rw [bne_iff_ne]; exact hc0
            generalize cmpN rk.name o = c9 at *
            clear hc0 HZZ HGD HS1
            go_wp2_with fail
            clear p0 p1 p2 p3 p4 p5 p6 r0 r1
            refine (unhide CN _ (unhide N8) (unhide M8)).mono ?_
            rintro e w9 ⟨rfl, b9⟩
            go_wp2_with fail
            go_ret
            exact ⟨rfl, below_next bb8 b9⟩
          ·rw [if_neg h6, Nat.add_zero] at hsoa
           have e6 : (rk.type == 6) = false := by rw [beq_eq_false_iff_ne]; exact h6
           have HS1 := hide hsoa
           have G9 := hide (unhide HGD (fun q => absurd q h6))
           clear h6 hsoa HGD
           go_wp2_with fail
           exact ⟨⟨k0 + 1 + 1, by omega, by go_num, by first | (rw [unhide HS1]; done) | (rw [unhide HS1]; rfl), G9, bw8⟩, by simp [intOf]; omega⟩
        ·have hz := zoneOk_badS (unhide HOK) (show k0 + 1 < rs.length by rw [unhide HN]; exact hlt) (fun g => hlt0 (by have := g.next (by omega); rw [show k0 + 1 - 1 = k0 by omega, unhide HRP, unhide HRK] at this; exact this))
         rw [unhide HZZ] at hz
         subst hz
         have hge : 0 ≤ cmpR rp rk := by omega
         generalize cmpR rp rk = cc at *
         replace CMP := hide CMP
         clear hlt0 HZZ HSOA AL CN ALO
         go_wp2_with fail
         clear c0 c1 c2 c3 c4 c5 c6 zc0 zc1
         refine wp_region_held_drew (S := (fun w' => ((w'.cell? ⟨w.heap.size, 0, none⟩ = some (.slice oa o.length oc) ∧ w'.cell? ⟨w.heap.size, 1, none⟩ = some (.slice (some ⟨b, off, none⟩) m rc)) ∧ (w'.cell? ⟨wr.heap.size, 0, none⟩ = some (.slice na rk.name.length nc) ∧ w'.cell? ⟨wr.heap.size, 1, none⟩ = some (.int .i64 rk.type) ∧ w'.cell? ⟨wr.heap.size, 2, none⟩ = some (.int .i64 rk.ttl) ∧ w'.cell? ⟨wr.heap.size, 3, none⟩ = some (.int .i64 rk.addr) ∧ w'.cell? ⟨wr.heap.size, 4, none⟩ = some (.slice ta rk.to.length tc) ∧ w'.cell? ⟨wr.heap.size, 5, none⟩ = some (.slice xa rk.text.length xc) ∧ w'.cell? ⟨wr.heap.size, 6, none⟩ = some (.slice ia rk.nums.length ic))) ∧ (w'.cell? ⟨b, off + k0 * 7, none⟩ = some (.slice na' rp.name.length nc') ∧ w'.cell? ⟨b, off + k0 * 7 + 1, none⟩ = some (.int .i64 rp.type) ∧ w'.cell? ⟨b, off + k0 * 7 + 2, none⟩ = some (.int .i64 rp.ttl) ∧ w'.cell? ⟨b, off + k0 * 7 + 3, none⟩ = some (.int .i64 rp.addr) ∧ w'.cell? ⟨b, off + k0 * 7 + 4, none⟩ = some (.slice ta' rp.to.length tc') ∧ w'.cell? ⟨b, off + k0 * 7 + 5, none⟩ = some (.slice xa' rp.text.length xc') ∧ w'.cell? ⟨b, off + k0 * 7 + 6, none⟩ = some (.slice ia' rp.nums.length ic')))) (by kernel_rfl) ⟨⟨cells2 (unhide K4), cells7 (unhide X4)⟩, range7 (unhide HC4)⟩ (fun hHeld => ?_)
         show wpAnyH _ _ _ _ _ 33 #[false, false, false, false, false, false, false, false, false, false, false, false, false, false, false, false, false, false, false, false, false, false, false, false, false, false, false, false, false, false, false, false, false] _ _
         refine tkF ?_ rfl (by kernel_rfl) (by kernel_rfl) (fun _ _ _ h => h) ?_ hHeld ?_; rotate_left; (· (intro w hSw; (try dsimp only at hSw); go_simp <;> with_reducible rfl)); simp only [Act.put, setF, List.setIfInBounds_toArray, List.set_cons_zero, List.set_cons_succ]
         refine runI 1 rfl (by kernel_rfl) (by kernel_rfl) (fun K hK => ?_)
         have HK := hide hK
         clear hK hHeld
         go_simp
         refine (unhide RK).mono ?_
         rintro e w5 ⟨rfl, q5⟩
         go_simp
         refine (unhide HK).out _ _ ⟨⟨cells2 (block_kept q5 (unhide K4)), cells7 (block_kept q5 (unhide X4))⟩, range7 (range_below (unhide HC4) hbl' q5)⟩ (fun hHeld => ?_)
         clear HK K
         try simp only [List.setIfInBounds_toArray, List.set_cons_zero, List.set_cons_succ]
         iterate 6 (refine tkF ?_ rfl (by kernel_rfl) (by kernel_rfl) (fun _ _ _ h => h) ?_ hHeld ?_; rotate_left; (· (intro w hSw; (try dsimp only at hSw); go_simp <;> with_reducible rfl)); simp only [Act.put, setF, List.setIfInBounds_toArray, List.set_cons_zero, List.set_cons_succ])
         refine runI 8 rfl (by kernel_rfl) (by kernel_rfl) (fun K hK => ?_)
         have HK := hide hK
         clear hK hHeld
         go_simp
         refine (unhide UND _ ((unhide U4).below q5).name ((unhide H4).below q5).name).mono ?_
         rintro e w6 ⟨rfl, b6⟩
         have q6 := below_next q5 b6
         go_simp
         refine (unhide HK).out _ _ ⟨⟨cells2 (block_kept q6 (unhide K4)), cells7 (block_kept q6 (unhide X4))⟩, range7 (range_below (unhide HC4) hbl' q6)⟩ (fun hHeld => ?_)
         clear HK K
         try simp only [List.setIfInBounds_toArray, List.set_cons_zero, List.set_cons_succ]
         iterate 4 (refine tkF ?_ rfl (by kernel_rfl) (by kernel_rfl) (fun _ _ _ h => h) ?_ hHeld ?_; rotate_left; (· (intro w hSw; (try dsimp only at hSw); go_simp <;> with_reducible rfl)); simp only [Act.put, setF, List.setIfInBounds_toArray, List.set_cons_zero, List.set_cons_succ])
         refine tkF (.bool true) rfl (by kernel_rfl) (by kernel_rfl) (fun _ _ _ h => h) ?_ hHeld ?_; (· (intro w hSw; (try dsimp only at hSw); go_simp)); simp only [Act.put, setF, List.setIfInBounds_toArray, List.set_cons_zero, List.set_cons_succ]
         refine tkF (.bool true) rfl (by kernel_rfl) (by kernel_rfl) (fun _ _ _ h => h) ?_ hHeld ?_; (· (intro w hSw; (try dsimp only at hSw); go_simp)); simp only [Act.put, setF, List.setIfInBounds_toArray, List.set_cons_zero, List.set_cons_succ]
         iterate 2 (refine tkF ?_ rfl (by kernel_rfl) (by kernel_rfl) (fun _ _ _ h => h) ?_ hHeld ?_; rotate_left; (· (intro w hSw; (try dsimp only at hSw); go_simp <;> with_reducible rfl)); simp only [Act.put, setF, List.setIfInBounds_toArray, List.set_cons_zero, List.set_cons_succ])
         refine tkF (.int .i64 (k0 + 1 : Nat)) rfl (by kernel_rfl) (by kernel_rfl) (fun _ _ _ h => h) ?_ hHeld ?_; (· (intro w hSw; (try dsimp only at hSw); go_simp)); simp only [Act.put, setF, List.setIfInBounds_toArray, List.set_cons_zero, List.set_cons_succ]
         refine tkF (.int .i64 (k0 : Nat)) rfl (by kernel_rfl) (by kernel_rfl) (fun _ _ _ h => h) ?_ hHeld ?_; (· (intro w hSw; (try dsimp only at hSw); go_simp)); simp only [Act.put, setF, List.setIfInBounds_toArray, List.set_cons_zero, List.set_cons_succ]
         refine tkF (.pointer (some ⟨b, off + k0 * 7, none⟩)) rfl (by kernel_rfl) (by kernel_rfl) (fun _ _ _ h => h) ?_ hHeld ?_; (· (intro w hSw; (try dsimp only at hSw); go_simp)); simp only [Act.put, setF, List.setIfInBounds_toArray, List.set_cons_zero, List.set_cons_succ]
         iterate 2 (refine tkF ?_ rfl (by kernel_rfl) (by kernel_rfl) (fun _ _ _ h => h) ?_ hHeld ?_; rotate_left; (· (intro w hSw; (try dsimp only at hSw); go_simp <;> with_reducible rfl)); simp only [Act.put, setF, List.setIfInBounds_toArray, List.set_cons_zero, List.set_cons_succ])
         refine runI 22 rfl (by kernel_rfl) (by kernel_rfl) (fun K hK => ?_)
         have HK := hide hK
         clear hK hHeld
         go_simp
         refine (unhide CMP _ ((unhide U4').below q6) ((unhide U4).below q6)).mono ?_
         rintro e w7 ⟨rfl, b7⟩
         have q7 := below_next q6 b7
         go_simp
         refine (unhide HK).out _ _ ⟨⟨cells2 (block_kept q7 (unhide K4)), cells7 (block_kept q7 (unhide X4))⟩, range7 (range_below (unhide HC4) hbl' q7)⟩ (fun hHeld => ?_)
         clear HK K
         try simp only [List.setIfInBounds_toArray, List.set_cons_zero, List.set_cons_succ]
         refine tkF (.bool true) rfl (by kernel_rfl) (by kernel_rfl) (fun _ _ _ h => h) ?_ hHeld ?_; (· (intro w hSw; (try dsimp only at hSw); go_simp)); simp only [Act.put, setF, List.setIfInBounds_toArray, List.set_cons_zero, List.set_cons_succ]
         refine tkF (.bool true) rfl (by kernel_rfl) (by kernel_rfl) (fun _ _ _ h => h) ?_ hHeld ?_; (· (intro w hSw; (try dsimp only at hSw); go_simp)); simp only [Act.put, setF, List.setIfInBounds_toArray, List.set_cons_zero, List.set_cons_succ]
         iterate 2 (refine tkF ?_ rfl (by kernel_rfl) (by kernel_rfl) (fun _ _ _ h => h) ?_ hHeld ?_; rotate_left; (· (intro w hSw; (try dsimp only at hSw); go_simp <;> with_reducible rfl)); simp only [Act.put, setF, List.setIfInBounds_toArray, List.set_cons_zero, List.set_cons_succ])
         iterate 5 (refine skF rfl (by kernel_rfl) (by kernel_rfl) (fun _ _ _ h => h) hHeld ?_; simp only [Act.put, setF, List.setIfInBounds_toArray, List.set_cons_zero, List.set_cons_succ])
         refine tkF ?_ rfl (by kernel_rfl) (by kernel_rfl) (fun _ _ _ h => h) ?_ hHeld ?_; rotate_left; (· (intro w hSw; (try dsimp only at hSw); go_simp <;> with_reducible rfl)); simp only [Act.put, setF, List.setIfInBounds_toArray, List.set_cons_zero, List.set_cons_succ]
         refine wpAnyH_done (by kernel_rfl) ?_ _
         clear hHeld
         go_wp2_with fail
         go_ret
         exact ⟨rfl, below_next bb4 q7⟩
    ·obtain rfl : k = m := by omega
     have hz := zoneOk_endS (unhide HOK) (by rw [unhide HN]; omega) (by rw [unhide HN]; exact unhide hall)
     rw [unhide HZZ, unhide HN] at hz
     have h1 := one_count2 (soas rs k)
     rw [← hz] at h1
     clear hz HZZ
     obtain ⟨zc0, zc1⟩ := cells2 (block_kept hb (unhide K1))
     go_wp2
     go_ret
     exact ⟨rfl, below_next bb1 hb⟩
  ·rw [zoneOk_long (by omega)]
   have h60' : (60 : Int) < rs.length := by omega
   go_enter Tryz.func43, Tryz.ntmps43
   go_wp2_with fail
   generalize w.alloc (.cells #[.slice oa o.length oc, .slice ra rs.length rc] 34) = W at *
   refine (unhide NO).mono ?_
   rintro e w1 ⟨rfl, b1⟩
   obtain ⟨d0, d1⟩ := cells2 (block_kept b1 (unhide K0))
   go_wp2_with fail
   go_ret
   exact ⟨rfl, below_next b0 b1⟩
end Go.Proofs.YtmlcmkoefelolaaGreat
