/-
  Contracts of the specification's l3num and l3cmp. Contract of the specification's l2under. Contract of the specification's l5alone.
-/
import Derived.Test.YtmlcmkoefelolaaGreatSetOfG15
import Derived.Test.YtmlcmkoefelolaaGreatSetOfG38
import Derived.Test.YtmlcmkoefelolaaGreatSetOfG39
import Derived.Test.YtmlcmkoefelolaaGreatSetOfG35
import Derived.Test.YtmlcmkoefelolaaGreatSetOfG06
import Derived.Deep.RegionHeld3
import Derived.Deep.RegionWith
import Derived.Test.YtmlcmkoefelolaaGreatSetOfG13
import Derived.Test.YtmlcmkoefelolaaGreatSetOfG16
import Derived.Test.YtmlcmkoefelolaaGreatSetOfG03
import Derived.Test.YtmlcmkoefelolaaGreatSetOfG30
namespace Go.Proofs.YtmlcmkoefelolaaGreat
open Go.RowKit
set_option linter.unusedVariables false

set_option maxHeartbeats 400000 in
set_option maxRecDepth 100000 in
theorem l3num_any (x y : Int) (w : World) : Calls Tryz.prog 124 #[.int .i64 x, .int .i64 y] w fun e w' => e = .returned (.int .i64 (byLength x y)) ∧ w = w' := by
 unfold byLength
 by_cases h1 : x < y
 ·rw [if_pos h1]
  go_enter Tryz.func124, Tryz.ntmps124
  go_wp2
  go_ret
  exact ⟨rfl, rfl⟩
 ·rw [if_neg h1]
  by_cases h2 : y < x
  ·rw [if_pos h2]
   go_enter Tryz.func124, Tryz.ntmps124
   go_wp2
   go_ret
   exact ⟨rfl, rfl⟩
  ·rw [if_neg h2]
   go_enter Tryz.func124, Tryz.ntmps124
   go_wp2
   go_ret
   exact ⟨rfl, rfl⟩

set_option maxHeartbeats 1000000 in
set_option maxRecDepth 100000 in
theorem l3cmp_has {vn vt vx vi un ut ux ui : Value} {a b : Rec} {w : World} (h : HasR w vn vt vx vi a) (h' : HasR w un ut ux ui b) (ha : rrOk a = true) (hb : rrOk b = true) :
  Calls Tryz.prog 86 #[.agg #[vn, .int .i64 a.type, .int .i64 a.ttl, .int .i64 a.addr, vt, vx, vi], .agg #[un, .int .i64 b.type, .int .i64 b.ttl, .int .i64 b.addr, ut, ux, ui]] w fun e w' => e = .returned (.int .i64 (cmpR a b)) ∧ Below w.heap.size w w' := by
 obtain ⟨na, nc, rfl, _⟩ := h.name.form
 obtain ⟨ta, tc, rfl, _⟩ := h.to.form
 obtain ⟨xa, xc, rfl, _⟩ := h.text.form
 obtain ⟨ia, ic, rfl, _⟩ := h.nums.form
 obtain ⟨na', nc', rfl, _⟩ := h'.name.form
 obtain ⟨ta', tc', rfl, _⟩ := h'.to.form
 obtain ⟨xa', xc', rfl, _⟩ := h'.text.form
 obtain ⟨ia', ic', rfl, _⟩ := h'.nums.form
 have b0 := below2 w (.cells #[.slice na a.name.length nc, .int .i64 a.type, .int .i64 a.ttl, .int .i64 a.addr, .slice ta a.to.length tc, .slice xa a.text.length xc, .slice ia a.nums.length ic] 52) (.cells #[.slice na' b.name.length nc', .int .i64 b.type, .int .i64 b.ttl, .int .i64 b.addr, .slice ta' b.to.length tc', .slice xa' b.text.length xc', .slice ia' b.nums.length ic'] 52)
 obtain ⟨hsz, k0, x0⟩ := box2 w (.cells #[.slice na a.name.length nc, .int .i64 a.type, .int .i64 a.ttl, .int .i64 a.addr, .slice ta a.to.length tc, .slice xa a.text.length xc, .slice ia a.nums.length ic] 52) #[.slice na' b.name.length nc', .int .i64 b.type, .int .i64 b.ttl, .int .i64 b.addr, .slice ta' b.to.length tc', .slice xa' b.text.length xc', .slice ia' b.nums.length ic'] 52
 have K0 := hide k0
 have X0 := hide x0
 have H0 := hide (h.below b0)
 have J0 := hide (h'.below b0)
 clear h h' k0 x0
 have hna := (nameOk_parts (rrOk_parts ha).1).1
 have hnb := (nameOk_parts (rrOk_parts hb).1).1
 have HC := hide (fun (w : World) (v v' : Value) (h : HasL w v a.name) (h' : HasL w v' b.name) => l2cmp_has h h' (by omega) (by omega))
 have HPa := hide (fun (w : World) (vn vt vx vi : Value) (h : HasR w vn vt vx vi a) => l3put_has h ha)
 have HPb := hide (fun (w : World) (vn vt vx vi : Value) (h : HasR w vn vt vx vi b) => l3put_has h hb)
 have HL := hide (l3num_any a.type b.type)
 have HB := hide (fun (w : World) (v v' : Value) (h : Has w v (dataB a)) (h' : Has w v' (dataB b)) => l2bytes_has h h')
 clear ha hb hna hnb
 unfold cmpR
 generalize dataB a = DA at *
 generalize dataB b = DB at *
 generalize cmpB DA DB = CB at *
 generalize cmpN a.name b.name = CN at *
 generalize byLength a.type b.type = CL at *
 by_cases e1 : CN = 0
 ·subst e1
  rw [if_neg (by simp)]
  by_cases e2 : CL = 0
  ·subst e2
   rw [if_neg (by simp)]
   go_enter Tryz.func86, Tryz.ntmps86
   go_wp2_with fail
   generalize (w.alloc (.cells #[.slice na a.name.length nc, .int .i64 a.type, .int .i64 a.ttl, .int .i64 a.addr, .slice ta a.to.length tc, .slice xa a.text.length xc, .slice ia a.nums.length ic] 52)).alloc (.cells #[.slice na' b.name.length nc', .int .i64 b.type, .int .i64 b.ttl, .int .i64 b.addr, .slice ta' b.to.length tc', .slice xa' b.text.length xc', .slice ia' b.nums.length ic'] 52) = W at *
   refine (unhide HC _ _ _ (unhide H0).name (unhide J0).name).mono ?_
   rintro e w1 ⟨rfl, b1⟩
   have bb1 := below_next b0 b1
   have K1 := hide (block_kept b1 (unhide K0))
   have X1 := hide (block_kept b1 (unhide X0))
   have H1 := hide ((unhide H0).below b1)
   have J1 := hide ((unhide J0).below b1)
   clear K0 X0 H0 J0 b1
   obtain ⟨d0, d1, d2, d3, d4, d5, d6⟩ := cells7 (unhide K1)
   obtain ⟨f0, f1, f2, f3, f4, f5, f6⟩ := cells7 (unhide X1)
   go_wp2_with fail
   refine (unhide HL _).mono ?_
   rintro e w2 ⟨rfl, rfl⟩
   clear d0 d1 d2 d3 d4 d5 d6 f0 f1 f2 f3 f4 f5 f6
   have bd := below_drew (w := w1)
   have bb2 := below_next bb1 bd
   have K2 := hide (block_kept bd (unhide K1))
   have X2 := hide (block_kept bd (unhide X1))
   have H2 := hide ((unhide H1).below bd)
   have J2 := hide ((unhide J1).below bd)
   clear K1 X1 H1 J1 bd
   obtain ⟨d0, d1, d2, d3, d4, d5, d6⟩ := cells7 (unhide K2)
   obtain ⟨f0, f1, f2, f3, f4, f5, f6⟩ := cells7 (unhide X2)
   go_wp2_with fail
   clear d0 d1 d2 d3 d4 d5 d6 f0 f1 f2 f3 f4 f5 f6
   go_region_held3 (fun w' => (w'.cell? ⟨w.heap.size, 0, none⟩ = some (.slice na a.name.length nc) ∧ w'.cell? ⟨w.heap.size, 1, none⟩ = some (.int .i64 a.type) ∧ w'.cell? ⟨w.heap.size, 2, none⟩ = some (.int .i64 a.ttl) ∧ w'.cell? ⟨w.heap.size, 3, none⟩ = some (.int .i64 a.addr) ∧ w'.cell? ⟨w.heap.size, 4, none⟩ = some (.slice ta a.to.length tc) ∧ w'.cell? ⟨w.heap.size, 5, none⟩ = some (.slice xa a.text.length xc) ∧ w'.cell? ⟨w.heap.size, 6, none⟩ = some (.slice ia a.nums.length ic)) ∧ (w'.cell? ⟨w.heap.size + 1, 0, none⟩ = some (.slice na' b.name.length nc') ∧ w'.cell? ⟨w.heap.size + 1, 1, none⟩ = some (.int .i64 b.type) ∧ w'.cell? ⟨w.heap.size + 1, 2, none⟩ = some (.int .i64 b.ttl) ∧ w'.cell? ⟨w.heap.size + 1, 3, none⟩ = some (.int .i64 b.addr) ∧ w'.cell? ⟨w.heap.size + 1, 4, none⟩ = some (.slice ta' b.to.length tc') ∧ w'.cell? ⟨w.heap.size + 1, 5, none⟩ = some (.slice xa' b.text.length xc') ∧ w'.cell? ⟨w.heap.size + 1, 6, none⟩ = some (.slice ia' b.nums.length ic')))
    (first | exact ⟨cells7 (unhide K2), cells7 (unhide X2)⟩ | exact ⟨cells7 (block_kept b3 (unhide K2)), cells7 (block_kept b3 (unhide X2))⟩ | exact ⟨cells7 (block_kept q4 (unhide K2)), cells7 (block_kept q4 (unhide X2))⟩ | exact ⟨cells7 (block_kept q5 (unhide K2)), cells7 (block_kept q5 (unhide X2))⟩)
    (first
    | (go_at_call_of 126 (Value.slice na a.name.length nc); refine (unhide HPa _ _ _ _ _ (unhide H2)).mono ?_; rintro e w3 ⟨y3, rfl, o3, b3⟩)
    | (go_at_call_of 126 (Value.slice na' b.name.length nc'); refine (unhide HPb _ _ _ _ _ ((unhide J2).below b3)).mono ?_; rintro e w4 ⟨y4, rfl, o4, b4⟩; have q4 := below_next b3 b4)
    | (go_at_call 125; refine (unhide HB _ _ _ (o3.below b4).has o4.has).mono ?_; rintro e w5 ⟨rfl, rfl⟩; have q5 := q4))
   go_wp2_with fail
   go_ret
   exact ⟨rfl, below_next bb2 q5⟩
  ·rw [if_pos e2]
   have f2 : (CL == 0) = false := by rw [beq_eq_false_iff_ne]; exact e2
   go_enter Tryz.func86, Tryz.ntmps86
   go_wp2_with fail
   generalize (w.alloc (.cells #[.slice na a.name.length nc, .int .i64 a.type, .int .i64 a.ttl, .int .i64 a.addr, .slice ta a.to.length tc, .slice xa a.text.length xc, .slice ia a.nums.length ic] 52)).alloc (.cells #[.slice na' b.name.length nc', .int .i64 b.type, .int .i64 b.ttl, .int .i64 b.addr, .slice ta' b.to.length tc', .slice xa' b.text.length xc', .slice ia' b.nums.length ic'] 52) = W at *
   refine (unhide HC _ _ _ (unhide H0).name (unhide J0).name).mono ?_
   rintro e w1 ⟨rfl, b1⟩
   have bb1 := below_next b0 b1
   have K1 := hide (block_kept b1 (unhide K0))
   have X1 := hide (block_kept b1 (unhide X0))
   have H1 := hide ((unhide H0).below b1)
   have J1 := hide ((unhide J0).below b1)
   clear K0 X0 H0 J0 b1
   obtain ⟨d0, d1, d2, d3, d4, d5, d6⟩ := cells7 (unhide K1)
   obtain ⟨f0, f1, f9, f3, f4, f5, f6⟩ := cells7 (unhide X1)
   go_wp2_with fail
   refine (unhide HL _).mono ?_
   rintro e w2 ⟨rfl, rfl⟩
   go_wp2_with fail
   go_ret
   exact ⟨rfl, bb1⟩
 ·rw [if_pos e1]
  have f1 : (CN == 0) = false := by rw [beq_eq_false_iff_ne]; exact e1
  go_enter Tryz.func86, Tryz.ntmps86
  go_wp2_with fail
  generalize (w.alloc (.cells #[.slice na a.name.length nc, .int .i64 a.type, .int .i64 a.ttl, .int .i64 a.addr, .slice ta a.to.length tc, .slice xa a.text.length xc, .slice ia a.nums.length ic] 52)).alloc (.cells #[.slice na' b.name.length nc', .int .i64 b.type, .int .i64 b.ttl, .int .i64 b.addr, .slice ta' b.to.length tc', .slice xa' b.text.length xc', .slice ia' b.nums.length ic'] 52) = W at *
  refine (unhide HC _ _ _ (unhide H0).name (unhide J0).name).mono ?_
  rintro e w1 ⟨rfl, b1⟩
  go_wp2_with fail
  go_ret
  exact ⟨rfl, below_next b0 b1⟩
end Go.Proofs.YtmlcmkoefelolaaGreat

namespace Go.Proofs.YtmlcmkoefelolaaGreat
open Go.RowKit
set_option linter.unusedVariables false

set_option maxHeartbeats 2000000 in
set_option maxRecDepth 100000 in
theorem l2under_has {v v' : Value} {n n' : List (List Int)} {w : World} (h : HasL w v n) (h' : HasL w v' n') (hs : n.length ≤ 6) (hs' : n'.length ≤ 6) :
  Calls Tryz.prog 85 #[.agg #[v], .agg #[v']] w fun e w' => e = .returned (.bool (endsWith n n')) ∧ Below w.heap.size w w' := by
 obtain ⟨a, cap, rfl, hcl, hcm⟩ := h.form
 obtain ⟨a', cap', rfl, _⟩ := h'.form
 unfold maxLen at hcm
 have b1 := below_alloc (w := w) (.cells #[.slice a n.length cap] 32)
 have k1 := heap_alloc_new w (.cells #[.slice a n.length cap] 32)
 have e1 : (w.alloc (.cells #[.slice a n.length cap] 32)).heap.size = w.heap.size + 1 := by show (w.heap.push _).size = _; simp
 have b2 := below_alloc (w := w.alloc (.cells #[.slice a n.length cap] 32)) (.cells #[.slice a' n'.length cap'] 32)
 have x2 := heap_alloc_new (w.alloc (.cells #[.slice a n.length cap] 32)) (.cells #[.slice a' n'.length cap'] 32)
 have k2 := block_kept b2 k1
 rw [e1] at x2
 have bb2 := below_next b1 b2
 have h2 := hide (h.below bb2)
 have h2' := hide (h'.below bb2)
 clear h h' b1 b2 k1 e1
 have hno := hide (fun (hlt : n.length < n'.length) => endsWith_no hlt)
 have hyes := hide (fun (hle : n'.length ≤ n.length) => endsWith_yes hle)
 generalize endsWith n n' = R at *
 have hdrop := hide (fun (W : World) (hW : HasL W (.slice a n.length cap) n) (k : Nat) (hk : k ≤ n.length) => HasL.drop hW rfl hk)
 by_cases hle : n'.length ≤ n.length
 ·have hr := unhide hyes hle
  have HDR := hide (unhide hdrop _ ((unhide h2).below below_drew) (n.length - n'.length) (by omega))
  clear hyes hno hdrop
  generalize hj : n.length - n'.length = j at *
  have hlen : (n.drop j).length = n.length - j := by simp
  generalize n.drop j = nd at *
  have s1 : (n.length : Int) - n'.length = j := by omega
  have wj : IntKind.i64.wrap (j : Int) = j := wrap_small j (by omega)
  have jl : j ≤ n.length := by omega
  have jc : j ≤ cap := by omega
  have j0 : (0 : Int) ≤ j := by omega
  go_enter Tryz.func85, Tryz.ntmps85
  go_wp2_with fail
  generalize (w.alloc (.cells #[.slice a n.length cap] 32)).alloc (.cells #[.slice a' n'.length cap'] 32) = W at *
  have kd := block_kept (below_drew (w := W)) k2
  have xd := block_kept (below_drew (w := W)) x2
  have ck := block_one kd
  have cx := block_one xd
  have KD := hide kd
  have XD := hide xd
  clear kd xd k2 x2
  rcases unhide HDR with ⟨ha, hm0, hc0⟩ | ⟨g, off, ha, hd⟩
  ·clear HDR
   have hz' : n'.length = 0 := by omega
   have hz : j = 0 := by omega
   obtain rfl : nd = [] := List.eq_nil_of_length_eq_zero (by omega)
   obtain rfl : n' = [] := List.eq_nil_of_length_eq_zero hz'
   obtain rfl : n = [] := List.eq_nil_of_length_eq_zero hm0
   subst ha hc0 hz
   clear hj hlen s1 wj jl jc hz' hm0 hle hs hs' hcl j0
   simp only [List.length_nil] at *
   have HD := hide (show HasL W.drew (.slice none 0 0) [] from .inl ⟨rfl, rfl⟩)
   have hS := hide (l2cmp_has (unhide HD) ((unhide h2').below below_drew) (by simp) (by simp))
   go_region_held3 (fun w' => w'.cell? ⟨w.heap.size, 0, none⟩ = some (.slice none 0 0) ∧ w'.cell? ⟨w.heap.size + 1, 0, none⟩ = some (.slice a' 0 cap'))
    (first | (exact ⟨ck, cx⟩) | (exact ⟨c5k, c5x⟩))
    (first | (go_at_call 88; refine (unhide hS).mono ?_; generalize cmpN [] [] = c at *; subst hr; rintro e w5 ⟨rfl, b5⟩; have c5k := block_one (block_kept b5 (unhide KD)); have c5x := block_one (block_kept b5 (unhide XD))))
   all_goals
    go_wp2_with fail
    go_ret
    exact ⟨rfl, below_next (below_next bb2 below_drew) b5⟩
  ·clear HDR
   subst ha
   by_cases hcj : cap = j
   ·have e2 : j = n.length := by omega
    have e1 : cap = n.length := by omega
    obtain rfl : n' = [] := List.eq_nil_of_length_eq_zero (by omega)
    obtain rfl : nd = [] := List.eq_nil_of_length_eq_zero (by omega)
    rw [if_pos hcj, e1, e2, Nat.sub_self] at hd
    have HD := hide hd
    subst e1 e2
    clear hd hj hlen hcj hle hs' jl jc s1 hcl
    simp only [List.length_nil] at *
    generalize hn : n.length = m at *
    have hS := hide (l2cmp_has (unhide HD) ((unhide h2').below below_drew) (by simp) (by simp))
    go_region_held3 (fun w' => w'.cell? ⟨w.heap.size, 0, none⟩ = some (.slice (some ⟨g, off, none⟩) m m) ∧ w'.cell? ⟨w.heap.size + 1, 0, none⟩ = some (.slice a' 0 cap'))
     (first | (exact ⟨ck, cx⟩) | (exact ⟨c5k, c5x⟩))
     (first | (go_at_call 88; refine (unhide hS).mono ?_; generalize cmpN [] [] = c at *; subst hr; rintro e w5 ⟨rfl, b5⟩; have c5k := block_one (block_kept b5 (unhide KD)); have c5x := block_one (block_kept b5 (unhide XD))))
    all_goals
     go_wp2_with fail
     go_ret
     exact ⟨rfl, below_next (below_next bb2 below_drew) b5⟩
   ·rw [if_neg hcj] at hd
    have HD := hide hd
    clear hd
    have hS := hide (l2cmp_has (unhide HD) ((unhide h2').below below_drew) (by omega) (by omega))
    go_region_held3 (fun w' => w'.cell? ⟨w.heap.size, 0, none⟩ = some (.slice (some ⟨g, off, none⟩) n.length cap) ∧ w'.cell? ⟨w.heap.size + 1, 0, none⟩ = some (.slice a' n'.length cap'))
     (first | (exact ⟨ck, cx⟩) | (exact ⟨c5k, c5x⟩))
     (first | (go_at_call 88; refine (unhide hS).mono ?_; generalize cmpN nd n' = c at *; subst hr; rintro e w5 ⟨rfl, b5⟩; have c5k := block_one (block_kept b5 (unhide KD)); have c5x := block_one (block_kept b5 (unhide XD))))
    all_goals
     go_wp2_with fail
     go_ret
     exact ⟨rfl, below_next (below_next bb2 below_drew) b5⟩
 ·have hr := unhide hno (by omega)
  subst hr
  have s1 : wrap64 ((n.length : Int) - n'.length) = (n.length : Int) - n'.length := by unfold wrap64; omega
  clear hyes hno hdrop
  have s2 : ¬ (0 : Int) ≤ (n.length : Int) - n'.length := by omega
  have KD := hide k2
  have XD := hide x2
  go_enter Tryz.func85, Tryz.ntmps85
  go_wp2_with fail
  generalize (w.alloc (.cells #[.slice a n.length cap] 32)).alloc (.cells #[.slice a' n'.length cap'] 32) = W at *
  have ck := block_one (unhide KD)
  have cx := block_one (unhide XD)
  clear k2 x2
  go_quiet (fail)
  go_wp2
  go_ret
  exact ⟨rfl, below_next bb2 (below_draws nq)⟩
end Go.Proofs.YtmlcmkoefelolaaGreat

namespace Go.Proofs.YtmlcmkoefelolaaGreat
open Go.RowKit
set_option linter.unusedVariables false

/-- Has no other one of the first n its name, if it is an alias. -/
def aloneB (rs : List Rec) (i : Nat) : Bool := decide ((rs.getD i recZ).type ≠ 5) || decide (∀ k, k < rs.length → k ≠ i → cmpN (rs.getD k recZ).name (rs.getD i recZ).name ≠ 0)
theorem aloneB_iff (rs : List Rec) (i : Nat) : aloneB rs i = true ↔ alone rs i := by
 unfold aloneB alone
 rw [Bool.or_eq_true, decide_eq_true_iff, decide_eq_true_iff]
 constructor
 ·intro h e
  exact h.resolve_left (fun q => q e)
 ·intro h
  by_cases e : (rs.getD i recZ).type = 5
  ·exact .inr (h e)
  ·exact .inl e
theorem aloneB_free {rs : List Rec} {i : Nat} (h : (rs.getD i recZ).type ≠ 5) : aloneB rs i = true := by
 unfold aloneB
 rw [decide_eq_true h, Bool.true_or]
theorem aloneB_all {rs : List Rec} {i : Nat} (h : ∀ k, k < rs.length → k ≠ i → cmpN (rs.getD k recZ).name (rs.getD i recZ).name ≠ 0) : aloneB rs i = true := by
 unfold aloneB
 rw [decide_eq_true h, Bool.or_true]
theorem aloneB_not {rs : List Rec} {i k : Nat} (h5 : (rs.getD i recZ).type = 5) (hk : k < rs.length) (hne : k ≠ i) (h0 : cmpN (rs.getD k recZ).name (rs.getD i recZ).name = 0) : aloneB rs i = false := by
 cases h : aloneB rs i with
 | false => rfl
 | true => exact absurd h0 ((aloneB_iff rs i).1 h h5 k hk hne)

set_option maxHeartbeats 1000000 in
set_option maxRecDepth 100000 in
theorem l5alone_has {v : Value} {rs : List Rec} {i : Nat} {w : World} (h : HasRs w v rs) (hi : i < rs.length) (h60 : rs.length ≤ 60) (hs : ∀ k, k < rs.length → (rs.getD k recZ).name.length ≤ 1048576) :
  Calls Tryz.prog 87 #[v, .int .i64 i] w fun e w' => e = .returned (.bool (aloneB rs i)) ∧ Below w.heap.size w w' := by
 obtain ⟨a, cap, rfl, _⟩ := h.form
 obtain ⟨b, off, na, nc, ta, tc, xa, xc, ia, ic, rfl, hbl, hc, hu⟩ := h.here hi
 generalize hAL : aloneB rs i = AL
 have HAL := hide hAL
 clear hAL
 generalize hri : rs.getD i recZ = ri at *
 have HRI := hide hri
 clear hri
 have HS := hide hs
 clear hs
 have hii : (i : Int) < rs.length := by omega
 generalize hn : rs.length = m at *
 have HN := hide hn
 clear hn
 obtain ⟨c0, c1, c2, c3, c4, c5, c6⟩ := range7 hc
 have HC := hide hc
 have HU := hide hu
 clear hc hu
 by_cases h5 : ri.type = 5
 ·have e5 : (ri.type != 5) = false := by rw [h5]; rfl
  have H5 := hide h5
  clear h5
  go_enter Tryz.func87, Tryz.ntmps87
  go_wp2_with fail
  clear c0 c1 c2 c3 c4 c5 c6 e5
  go_loopw [5] (fun x wr => ∃ k : Nat, k ≤ m ∧ x = .int .i64 k ∧ Hid (∀ j, j < k → j ≠ i → cmpN (rs.getD j recZ).name ri.name ≠ 0) ∧ Below w.heap.size w wr) (fun x _ => m - (intOf x).toNat)
  case atStart => exact ⟨0, Nat.zero_le _, rfl, hide (fun j hj => absurd hj (Nat.not_lt_zero _)), Below.refl _ _⟩
  case round =>
   obtain ⟨k, hk, rfl, hall, hb⟩ := hrel
   by_cases hlt : k < m
   ·have bd := below_drew (w := wr)
    have hbd := below_next hb bd
    by_cases hki : k = i
    ·have e1 : ((k : Int) != i) = false := by rw [hki]; simp
     have hall' : ∀ j, j < k + 1 → j ≠ i → cmpN (rs.getD j recZ).name ri.name ≠ 0 := fun j hj hne => unhide hall j (by omega) hne
     have HALL := hide hall'
     clear hall' hki
     go_wp2_with fail
     refine wp_region_held_drew (S := (fun _ => True)) (by kernel_rfl) trivial (fun hHeld => ?_)
     show wpAnyH _ _ _ _ _ 17 #[false, false, false, false, false, false, false, false, false, false, false, false, false, false, false, false, false] _ _
     iterate 2 (refine tkF ?_ rfl (by kernel_rfl) (by kernel_rfl) (fun _ _ _ h => h) ?_ hHeld ?_; rotate_left; (· (intro w hSw; (try dsimp only at hSw); go_simp <;> with_reducible rfl)); simp only [Act.put, setF, List.setIfInBounds_toArray, List.set_cons_zero, List.set_cons_succ])
     refine tkF (.bool false) rfl (by kernel_rfl) (by kernel_rfl) (fun _ _ _ h => h) ?_ hHeld ?_; (· (intro w hSw; (try dsimp only at hSw); go_simp)); simp only [Act.put, setF, List.setIfInBounds_toArray, List.set_cons_zero, List.set_cons_succ]
     refine tkF (.bool false) rfl (by kernel_rfl) (by kernel_rfl) (fun _ _ _ h => h) ?_ hHeld ?_; (· (intro w hSw; (try dsimp only at hSw); go_simp)); simp only [Act.put, setF, List.setIfInBounds_toArray, List.set_cons_zero, List.set_cons_succ]
     iterate 12 (refine skF rfl (by kernel_rfl) (by kernel_rfl) (fun _ _ _ h => h) hHeld ?_; simp only [Act.put, setF, List.setIfInBounds_toArray, List.set_cons_zero, List.set_cons_succ])
     refine tkF ?_ rfl (by kernel_rfl) (by kernel_rfl) (fun _ _ _ h => h) ?_ hHeld ?_; rotate_left; (· (intro w hSw; (try dsimp only at hSw); go_simp <;> with_reducible rfl)); simp only [Act.put, setF, List.setIfInBounds_toArray, List.set_cons_zero, List.set_cons_succ]
     refine wpAnyH_done (by kernel_rfl) ?_ _
     clear hHeld
     go_wp2_with fail
     exact ⟨⟨k + 1, by omega, by go_num, HALL, hbd⟩, by simp [intOf]; omega⟩
    ·obtain ⟨b', off', na', nc', ta', tc', xa', xc', ia', ic', hbe, hbl', hc', hu'⟩ := (h.below hb).here (k := k) (by rw [unhide HN]; exact hlt)
     simp only [Option.some.injEq, Addr.mk.injEq, and_true] at hbe
     obtain ⟨rfl, rfl⟩ := hbe
     have hsk := unhide HS k hlt
     have hsi : ri.name.length ≤ 1048576 := by have := unhide HS i (by omega); rw [unhide HRI] at this; exact this
     have e1 : ((k : Int) != i) = true := by rw [bne_iff_ne]; omega
     have hkm : (k : Int) < m := by omega
     have hlim := hlt
     generalize hrk : rs.getD k recZ = rk at *
     have HRK := hide hrk
     clear hrk
     have CM := fun (w : World) (h1 : HasL w (.slice na' rk.name.length nc') rk.name) (h2 : HasL w (.slice na ri.name.length nc) ri.name) => l2cmp_has h1 h2 hsk hsi
     have HC4 := hide (range_below hc' hbl' bd)
     have HC5 := hide (range_below (range_below (unhide HC) hbl hb) (Nat.lt_of_lt_of_le hbl hb.size) bd)
     have hbl4 : b < wr.drew.heap.size := hbl'
     have U4 := hide (hu'.name.below bd)
     have U5 := hide ((unhide HU).name.below hbd)
     clear hc' hu' hsk hsi
     by_cases hz : cmpN rk.name ri.name = 0
     ·have hA := aloneB_not (rs := rs) (i := i) (k := k) (by rw [unhide HRI]; exact unhide H5) (by rw [unhide HN]; exact hlt) hki (by rw [unhide HRK, unhide HRI]; exact hz)
      rw [unhide HAL] at hA
      subst hA
      rw [hz] at CM
      replace CM := hide CM
      clear hz HAL hall hki
      go_wp2_with fail
      refine wp_region_held_drew (S := (fun w' => w'.cell? ⟨b, off + k * 7, none⟩ = some (.slice na' rk.name.length nc') ∧ w'.cell? ⟨b, off + i * 7, none⟩ = some (.slice na ri.name.length nc))) (by kernel_rfl) ⟨(range7 (unhide HC4)).1, (range7 (unhide HC5)).1⟩ (fun hHeld => ?_)
      show wpAnyH _ _ _ _ _ 17 #[false, false, false, false, false, false, false, false, false, false, false, false, false, false, false, false, false] _ _
      iterate 2 (refine tkF ?_ rfl (by kernel_rfl) (by kernel_rfl) (fun _ _ _ h => h) ?_ hHeld ?_; rotate_left; (· (intro w hSw; (try dsimp only at hSw); go_simp <;> with_reducible rfl)); simp only [Act.put, setF, List.setIfInBounds_toArray, List.set_cons_zero, List.set_cons_succ])
      refine tkF (.bool true) rfl (by kernel_rfl) (by kernel_rfl) (fun _ _ _ h => h) ?_ hHeld ?_; (· (intro w hSw; (try dsimp only at hSw); go_simp)); simp only [Act.put, setF, List.setIfInBounds_toArray, List.set_cons_zero, List.set_cons_succ]
      refine tkF (.bool true) rfl (by kernel_rfl) (by kernel_rfl) (fun _ _ _ h => h) ?_ hHeld ?_; (· (intro w hSw; (try dsimp only at hSw); go_simp)); simp only [Act.put, setF, List.setIfInBounds_toArray, List.set_cons_zero, List.set_cons_succ]
      iterate 2 (refine tkF ?_ rfl (by kernel_rfl) (by kernel_rfl) (fun _ _ _ h => h) ?_ hHeld ?_; rotate_left; (· (intro w hSw; (try dsimp only at hSw); go_simp <;> with_reducible rfl)); simp only [Act.put, setF, List.setIfInBounds_toArray, List.set_cons_zero, List.set_cons_succ])
      refine tkF (.pointer (some ⟨b, off + k * 7, none⟩)) rfl (by kernel_rfl) (by kernel_rfl) (fun _ _ _ h => h) ?_ hHeld ?_; (· (intro w hSw; (try dsimp only at hSw); go_simp)); simp only [Act.put, setF, List.setIfInBounds_toArray, List.set_cons_zero, List.set_cons_succ]
      iterate 4 (refine tkF ?_ rfl (by kernel_rfl) (by kernel_rfl) (fun _ _ _ h => h) ?_ hHeld ?_; rotate_left; (· (intro w hSw; (try dsimp only at hSw); go_simp <;> with_reducible rfl)); simp only [Act.put, setF, List.setIfInBounds_toArray, List.set_cons_zero, List.set_cons_succ])
      refine tkF (.pointer (some ⟨b, off + i * 7, none⟩)) rfl (by kernel_rfl) (by kernel_rfl) (fun _ _ _ h => h) ?_ hHeld ?_; (· (intro w hSw; (try dsimp only at hSw); go_simp)); simp only [Act.put, setF, List.setIfInBounds_toArray, List.set_cons_zero, List.set_cons_succ]
      iterate 2 (refine tkF ?_ rfl (by kernel_rfl) (by kernel_rfl) (fun _ _ _ h => h) ?_ hHeld ?_; rotate_left; (· (intro w hSw; (try dsimp only at hSw); go_simp <;> with_reducible rfl)); simp only [Act.put, setF, List.setIfInBounds_toArray, List.set_cons_zero, List.set_cons_succ])
      refine runI 14 rfl (by kernel_rfl) (by kernel_rfl) (fun K hK => ?_)
      have HK := hide hK
      clear hK hHeld
      go_simp
      refine (unhide CM _ (unhide U4) (unhide U5)).mono ?_
      rintro e w2 ⟨rfl, b2⟩
      go_simp
      refine (unhide HK).out _ _ ⟨(range7 (range_below (unhide HC4) hbl4 b2)).1, (range7 (range_below (unhide HC5) hbl4 b2)).1⟩ (fun hHeld => ?_)
      clear HK K
      try simp only [List.setIfInBounds_toArray, List.set_cons_zero, List.set_cons_succ]
      refine tkF (.bool true) rfl (by kernel_rfl) (by kernel_rfl) (fun _ _ _ h => h) ?_ hHeld ?_; (· (intro w hSw; (try dsimp only at hSw); go_simp)); simp only [Act.put, setF, List.setIfInBounds_toArray, List.set_cons_zero, List.set_cons_succ]
      refine tkF (.bool true) rfl (by kernel_rfl) (by kernel_rfl) (fun _ _ _ h => h) ?_ hHeld ?_; (· (intro w hSw; (try dsimp only at hSw); go_simp)); simp only [Act.put, setF, List.setIfInBounds_toArray, List.set_cons_zero, List.set_cons_succ]
      refine wpAnyH_done (by kernel_rfl) ?_ _
      clear hHeld
      go_wp2_with fail
      go_ret
      exact ⟨rfl, below_next hbd b2⟩
     ·have hall' : ∀ j, j < k + 1 → j ≠ i → cmpN (rs.getD j recZ).name ri.name ≠ 0 := fun j hj hne => by
       by_cases e : j = k
       ·subst e; rw [unhide HRK]; exact hz
       ·exact unhide hall j (by omega) hne
      have HALL := hide hall'
      have e2 : (cmpN rk.name ri.name == 0) = false := by rw [beq_eq_false_iff_ne]; exact hz
      generalize cmpN rk.name ri.name = c at *
      replace CM := hide CM
      clear hall' hz hki
      go_wp2_with fail
      refine wp_region_held_drew (S := (fun w' => w'.cell? ⟨b, off + k * 7, none⟩ = some (.slice na' rk.name.length nc') ∧ w'.cell? ⟨b, off + i * 7, none⟩ = some (.slice na ri.name.length nc))) (by kernel_rfl) ⟨(range7 (unhide HC4)).1, (range7 (unhide HC5)).1⟩ (fun hHeld => ?_)
      show wpAnyH _ _ _ _ _ 17 #[false, false, false, false, false, false, false, false, false, false, false, false, false, false, false, false, false] _ _
      iterate 2 (refine tkF ?_ rfl (by kernel_rfl) (by kernel_rfl) (fun _ _ _ h => h) ?_ hHeld ?_; rotate_left; (· (intro w hSw; (try dsimp only at hSw); go_simp <;> with_reducible rfl)); simp only [Act.put, setF, List.setIfInBounds_toArray, List.set_cons_zero, List.set_cons_succ])
      refine tkF (.bool true) rfl (by kernel_rfl) (by kernel_rfl) (fun _ _ _ h => h) ?_ hHeld ?_; (· (intro w hSw; (try dsimp only at hSw); go_simp)); simp only [Act.put, setF, List.setIfInBounds_toArray, List.set_cons_zero, List.set_cons_succ]
      refine tkF (.bool true) rfl (by kernel_rfl) (by kernel_rfl) (fun _ _ _ h => h) ?_ hHeld ?_; (· (intro w hSw; (try dsimp only at hSw); go_simp)); simp only [Act.put, setF, List.setIfInBounds_toArray, List.set_cons_zero, List.set_cons_succ]
      iterate 2 (refine tkF ?_ rfl (by kernel_rfl) (by kernel_rfl) (fun _ _ _ h => h) ?_ hHeld ?_; rotate_left; (· (intro w hSw; (try dsimp only at hSw); go_simp <;> with_reducible rfl)); simp only [Act.put, setF, List.setIfInBounds_toArray, List.set_cons_zero, List.set_cons_succ])
      refine tkF (.pointer (some ⟨b, off + k * 7, none⟩)) rfl (by kernel_rfl) (by kernel_rfl) (fun _ _ _ h => h) ?_ hHeld ?_; (· (intro w hSw; (try dsimp only at hSw); go_simp)); simp only [Act.put, setF, List.setIfInBounds_toArray, List.set_cons_zero, List.set_cons_succ]
      iterate 4 (refine tkF ?_ rfl (by kernel_rfl) (by kernel_rfl) (fun _ _ _ h => h) ?_ hHeld ?_; rotate_left; (· (intro w hSw; (try dsimp only at hSw); go_simp <;> with_reducible rfl)); simp only [Act.put, setF, List.setIfInBounds_toArray, List.set_cons_zero, List.set_cons_succ])
      refine tkF (.pointer (some ⟨b, off + i * 7, none⟩)) rfl (by kernel_rfl) (by kernel_rfl) (fun _ _ _ h => h) ?_ hHeld ?_; (· (intro w hSw; (try dsimp only at hSw); go_simp)); simp only [Act.put, setF, List.setIfInBounds_toArray, List.set_cons_zero, List.set_cons_succ]
      iterate 2 (refine tkF ?_ rfl (by kernel_rfl) (by kernel_rfl) (fun _ _ _ h => h) ?_ hHeld ?_; rotate_left; (· (intro w hSw; (try dsimp only at hSw); go_simp <;> with_reducible rfl)); simp only [Act.put, setF, List.setIfInBounds_toArray, List.set_cons_zero, List.set_cons_succ])
      refine runI 14 rfl (by kernel_rfl) (by kernel_rfl) (fun K hK => ?_)
      have HK := hide hK
      clear hK hHeld
      go_simp
      refine (unhide CM _ (unhide U4) (unhide U5)).mono ?_
      rintro e w2 ⟨rfl, b2⟩
      go_simp
      refine (unhide HK).out _ _ ⟨(range7 (range_below (unhide HC4) hbl4 b2)).1, (range7 (range_below (unhide HC5) hbl4 b2)).1⟩ (fun hHeld => ?_)
      clear HK K
      try simp only [List.setIfInBounds_toArray, List.set_cons_zero, List.set_cons_succ]
      refine tkF (.bool false) rfl (by kernel_rfl) (by kernel_rfl) (fun _ _ _ h => h) ?_ hHeld ?_; (· (intro w hSw; (try dsimp only at hSw); go_simp)); simp only [Act.put, setF, List.setIfInBounds_toArray, List.set_cons_zero, List.set_cons_succ]
      refine tkF (.bool false) rfl (by kernel_rfl) (by kernel_rfl) (fun _ _ _ h => h) ?_ hHeld ?_; (· (intro w hSw; (try dsimp only at hSw); go_simp)); simp only [Act.put, setF, List.setIfInBounds_toArray, List.set_cons_zero, List.set_cons_succ]
      refine wpAnyH_done (by kernel_rfl) ?_ _
      clear hHeld
      go_wp2_with fail
      exact ⟨⟨k + 1, by omega, by go_num, HALL, below_next hbd b2⟩, by simp [intOf]; omega⟩
   ·obtain rfl : k = m := by omega
    have hA := aloneB_all (rs := rs) (i := i) (fun j hj hne => by rw [unhide HRI]; exact unhide hall j (by rw [unhide HN] at hj; exact hj) hne)
    rw [unhide HAL] at hA
    subst hA
    go_wp2
    go_ret
    exact ⟨rfl, hb⟩
 ·have hA := aloneB_free (rs := rs) (i := i) (by rw [unhide HRI]; exact h5)
  rw [unhide HAL] at hA
  subst hA
  have e5 : (ri.type != 5) = true := by rw [bne_iff_ne]; exact h5
  clear h5
  go_enter Tryz.func87, Tryz.ntmps87
  go_wp2_with fail
  go_ret
  exact ⟨rfl, Below.refl _ _⟩
end Go.Proofs.YtmlcmkoefelolaaGreat
