/-
  Contracts of the specification's l3num and l3cmp. Contract of the specification's RrSame. Plain facts: names that are the same, names that end with others, and their order. No program is named here. Plain facts: what the law of the order of names asks for. No program is named here. Plain facts: the order of records. No program is named here.
-/
import Derived.Test.YtjgfljndeolmoaaFnInsidesG08
import Derived.Test.YtjgfljndeolmoaaFnInsidesG42
import Derived.Test.YtjgfljndeolmoaaFnInsidesG44
import Derived.Test.YtjgfljndeolmoaaFnInsidesG03
import Derived.Deep.RegionHeld3
import Derived.Deep.RegionWith
import Derived.Test.YtjgfljndeolmoaaFnInsidesG09
import Derived.Test.YtjgfljndeolmoaaFnInsidesG12
import Derived.Test.YtjgfljndeolmoaaFnInsidesG40
import Derived.Test.YtjgfljndeolmoaaFnInsidesG04
namespace Go.Proofs.Ytjgfljndeolmoaa
open Go.RowKit
set_option linter.unusedVariables false

set_option maxHeartbeats 400000 in
set_option maxRecDepth 100000 in
theorem l3num_any (x y : Int) (w : World) : Calls Try.prog 102 #[.int .i64 x, .int .i64 y] w fun e w' => e = .returned (.int .i64 (byLength x y)) ∧ w = w' := by
 unfold byLength
 by_cases h1 : x < y
 ·rw [if_pos h1]
  go_enter Try.func102, Try.ntmps102
  go_wp2
  go_ret
  exact ⟨rfl, rfl⟩
 ·rw [if_neg h1]
  by_cases h2 : y < x
  ·rw [if_pos h2]
   go_enter Try.func102, Try.ntmps102
   go_wp2
   go_ret
   exact ⟨rfl, rfl⟩
  ·rw [if_neg h2]
   go_enter Try.func102, Try.ntmps102
   go_wp2
   go_ret
   exact ⟨rfl, rfl⟩

set_option maxHeartbeats 1000000 in
set_option maxRecDepth 100000 in
theorem l3cmp_has {vn vt vx vi un ut ux ui : Value} {a b : Rec} {w : World} (h : HasR w vn vt vx vi a) (h' : HasR w un ut ux ui b) (ha : rrOk a = true) (hb : rrOk b = true) :
  Calls Try.prog 53 #[.agg #[vn, .int .i64 a.type, .int .i64 a.ttl, .int .i64 a.addr, vt, vx, vi], .agg #[un, .int .i64 b.type, .int .i64 b.ttl, .int .i64 b.addr, ut, ux, ui]] w fun e w' => e = .returned (.int .i64 (cmpR a b)) ∧ Below w.heap.size w w' := by
 obtain ⟨na, nc, rfl, _⟩ := h.name.form
 obtain ⟨ta, tc, rfl, _⟩ := h.to.form
 obtain ⟨xa, xc, rfl, _⟩ := h.text.form
 obtain ⟨ia, ic, rfl, _⟩ := h.nums.form
 obtain ⟨na', nc', rfl, _⟩ := h'.name.form
 obtain ⟨ta', tc', rfl, _⟩ := h'.to.form
 obtain ⟨xa', xc', rfl, _⟩ := h'.text.form
 obtain ⟨ia', ic', rfl, _⟩ := h'.nums.form
 have b0 := below2 w (.cells #[.slice na a.name.length nc, .int .i64 a.type, .int .i64 a.ttl, .int .i64 a.addr, .slice ta a.to.length tc, .slice xa a.text.length xc, .slice ia a.nums.length ic] 34) (.cells #[.slice na' b.name.length nc', .int .i64 b.type, .int .i64 b.ttl, .int .i64 b.addr, .slice ta' b.to.length tc', .slice xa' b.text.length xc', .slice ia' b.nums.length ic'] 34)
 obtain ⟨hsz, k0, x0⟩ := box2 w (.cells #[.slice na a.name.length nc, .int .i64 a.type, .int .i64 a.ttl, .int .i64 a.addr, .slice ta a.to.length tc, .slice xa a.text.length xc, .slice ia a.nums.length ic] 34) #[.slice na' b.name.length nc', .int .i64 b.type, .int .i64 b.ttl, .int .i64 b.addr, .slice ta' b.to.length tc', .slice xa' b.text.length xc', .slice ia' b.nums.length ic'] 34
 have K0 := hide k0
 have X0 := hide x0
 have H0 := hide (h.below b0)
 have J0 := hide (h'.below b0)
 clear h h' k0 x0
 have hna := (nameOk_parts (rrOk_parts ha).1).1
 have hnb := (nameOk_parts (rrOk_parts hb).1).1
 have HC := hide (fun (w : World) (v v' : Value) (h : HasL w v a.name) (h' : HasL w v' b.name) => l2cmp_has h h' (by omega) (by omega))
 have HPa := hide (fun (w : World) (vn vt vx vi : Value) (h : HasR w vn vt vx vi a) => l3put_has h ha)
 have HPb := hide (fun (w : World) (vn vt vx vi : Value) (h : HasR w vn vt vx vi b) => l3put_has h hb)
 have HL := hide (l3num_any a.type b.type)
 have HB := hide (fun (w : World) (v v' : Value) (h : Has w v (dataB a)) (h' : Has w v' (dataB b)) => l2bytes_has h h')
 clear ha hb hna hnb
 unfold cmpR
 generalize dataB a = DA at *
 generalize dataB b = DB at *
 generalize cmpB DA DB = CB at *
 generalize cmpN a.name b.name = CN at *
 generalize byLength a.type b.type = CL at *
 by_cases e1 : CN = 0
 ·subst e1
  rw [if_neg (by simp)]
  by_cases e2 : CL = 0
  ·subst e2
   rw [if_neg (by simp)]
   go_enter Try.func53, Try.ntmps53
   go_wp2_with fail
   generalize (w.alloc (.cells #[.slice na a.name.length nc, .int .i64 a.type, .int .i64 a.ttl, .int .i64 a.addr, .slice ta a.to.length tc, .slice xa a.text.length xc, .slice ia a.nums.length ic] 34)).alloc (.cells #[.slice na' b.name.length nc', .int .i64 b.type, .int .i64 b.ttl, .int .i64 b.addr, .slice ta' b.to.length tc', .slice xa' b.text.length xc', .slice ia' b.nums.length ic'] 34) = W at *
   refine (unhide HC _ _ _ (unhide H0).name (unhide J0).name).mono ?_
   rintro e w1 ⟨rfl, b1⟩
   have bb1 := below_next b0 b1
   have K1 := hide (block_kept b1 (unhide K0))
   have X1 := hide (block_kept b1 (unhide X0))
   have H1 := hide ((unhide H0).below b1)
   have J1 := hide ((unhide J0).below b1)
   clear K0 X0 H0 J0 b1
   obtain ⟨d0, d1, d2, d3, d4, d5, d6⟩ := cells7 (unhide K1)
   obtain ⟨f0, f1, f2, f3, f4, f5, f6⟩ := cells7 (unhide X1)
   go_wp2_with fail
   refine (unhide HL _).mono ?_
   rintro e w2 ⟨rfl, rfl⟩
   clear d0 d1 d2 d3 d4 d5 d6 f0 f1 f2 f3 f4 f5 f6
   have bd := below_drew (w := w1)
   have bb2 := below_next bb1 bd
   have K2 := hide (block_kept bd (unhide K1))
   have X2 := hide (block_kept bd (unhide X1))
   have H2 := hide ((unhide H1).below bd)
   have J2 := hide ((unhide J1).below bd)
   clear K1 X1 H1 J1 bd
   obtain ⟨d0, d1, d2, d3, d4, d5, d6⟩ := cells7 (unhide K2)
   obtain ⟨f0, f1, f2, f3, f4, f5, f6⟩ := cells7 (unhide X2)
   go_wp2_with fail
   clear d0 d1 d2 d3 d4 d5 d6 f0 f1 f2 f3 f4 f5 f6
   go_region_held3 (fun w' => (w'.cell? ⟨w.heap.size, 0, none⟩ = some (.slice na a.name.length nc) ∧ w'.cell? ⟨w.heap.size, 1, none⟩ = some (.int .i64 a.type) ∧ w'.cell? ⟨w.heap.size, 2, none⟩ = some (.int .i64 a.ttl) ∧ w'.cell? ⟨w.heap.size, 3, none⟩ = some (.int .i64 a.addr) ∧ w'.cell? ⟨w.heap.size, 4, none⟩ = some (.slice ta a.to.length tc) ∧ w'.cell? ⟨w.heap.size, 5, none⟩ = some (.slice xa a.text.length xc) ∧ w'.cell? ⟨w.heap.size, 6, none⟩ = some (.slice ia a.nums.length ic)) ∧ (w'.cell? ⟨w.heap.size + 1, 0, none⟩ = some (.slice na' b.name.length nc') ∧ w'.cell? ⟨w.heap.size + 1, 1, none⟩ = some (.int .i64 b.type) ∧ w'.cell? ⟨w.heap.size + 1, 2, none⟩ = some (.int .i64 b.ttl) ∧ w'.cell? ⟨w.heap.size + 1, 3, none⟩ = some (.int .i64 b.addr) ∧ w'.cell? ⟨w.heap.size + 1, 4, none⟩ = some (.slice ta' b.to.length tc') ∧ w'.cell? ⟨w.heap.size + 1, 5, none⟩ = some (.slice xa' b.text.length xc') ∧ w'.cell? ⟨w.heap.size + 1, 6, none⟩ = some (.slice ia' b.nums.length ic')))
    (first | exact ⟨cells7 (unhide K2), cells7 (unhide X2)⟩ | exact ⟨cells7 (block_kept b3 (unhide K2)), cells7 (block_kept b3 (unhide X2))⟩ | exact ⟨cells7 (block_kept q4 (unhide K2)), cells7 (block_kept q4 (unhide X2))⟩ | exact ⟨cells7 (block_kept q5 (unhide K2)), cells7 (block_kept q5 (unhide X2))⟩)
    (first
    | (go_at_call_of 104 (Value.slice na a.name.length nc); refine (unhide HPa _ _ _ _ _ (unhide H2)).mono ?_; rintro e w3 ⟨y3, rfl, o3, b3⟩)
    | (go_at_call_of 104 (Value.slice na' b.name.length nc'); refine (unhide HPb _ _ _ _ _ ((unhide J2).below b3)).mono ?_; rintro e w4 ⟨y4, rfl, o4, b4⟩; have q4 := below_next b3 b4)
    | (go_at_call 103; refine (unhide HB _ _ _ (o3.below b4).has o4.has).mono ?_; rintro e w5 ⟨rfl, rfl⟩; have q5 := q4))
   go_wp2_with fail
   go_ret
   exact ⟨rfl, below_next bb2 q5⟩
  ·rw [if_pos e2]
   have f2 : (CL == 0) = false := by rw [beq_eq_false_iff_ne]; exact e2
   go_enter Try.func53, Try.ntmps53
   go_wp2_with fail
   generalize (w.alloc (.cells #[.slice na a.name.length nc, .int .i64 a.type, .int .i64 a.ttl, .int .i64 a.addr, .slice ta a.to.length tc, .slice xa a.text.length xc, .slice ia a.nums.length ic] 34)).alloc (.cells #[.slice na' b.name.length nc', .int .i64 b.type, .int .i64 b.ttl, .int .i64 b.addr, .slice ta' b.to.length tc', .slice xa' b.text.length xc', .slice ia' b.nums.length ic'] 34) = W at *
   refine (unhide HC _ _ _ (unhide H0).name (unhide J0).name).mono ?_
   rintro e w1 ⟨rfl, b1⟩
   have bb1 := below_next b0 b1
   have K1 := hide (block_kept b1 (unhide K0))
   have X1 := hide (block_kept b1 (unhide X0))
   have H1 := hide ((unhide H0).below b1)
   have J1 := hide ((unhide J0).below b1)
   clear K0 X0 H0 J0 b1
   obtain ⟨d0, d1, d2, d3, d4, d5, d6⟩ := cells7 (unhide K1)
   obtain ⟨f0, f1, f9, f3, f4, f5, f6⟩ := cells7 (unhide X1)
   go_wp2_with fail
   refine (unhide HL _).mono ?_
   rintro e w2 ⟨rfl, rfl⟩
   go_wp2_with fail
   go_ret
   exact ⟨rfl, bb1⟩
 ·rw [if_pos e1]
  have f1 : (CN == 0) = false := by rw [beq_eq_false_iff_ne]; exact e1
  go_enter Try.func53, Try.ntmps53
  go_wp2_with fail
  generalize (w.alloc (.cells #[.slice na a.name.length nc, .int .i64 a.type, .int .i64 a.ttl, .int .i64 a.addr, .slice ta a.to.length tc, .slice xa a.text.length xc, .slice ia a.nums.length ic] 34)).alloc (.cells #[.slice na' b.name.length nc', .int .i64 b.type, .int .i64 b.ttl, .int .i64 b.addr, .slice ta' b.to.length tc', .slice xa' b.text.length xc', .slice ia' b.nums.length ic'] 34) = W at *
  refine (unhide HC _ _ _ (unhide H0).name (unhide J0).name).mono ?_
  rintro e w1 ⟨rfl, b1⟩
  go_wp2_with fail
  go_ret
  exact ⟨rfl, below_next b0 b1⟩
end Go.Proofs.Ytjgfljndeolmoaa

namespace Go.Proofs.Ytjgfljndeolmoaa
open Go.RowKit
set_option linter.unusedVariables false

set_option maxHeartbeats 1000000 in
set_option maxRecDepth 100000 in
theorem specRrSame_has {vn vt vx vi un ut ux ui : Value} {a b : Rec} {w : World} (h : HasR w vn vt vx vi a) (h' : HasR w un ut ux ui b) :
  Calls Try.prog 11 #[.agg #[vn, .int .i64 a.type, .int .i64 a.ttl, .int .i64 a.addr, vt, vx, vi], .agg #[un, .int .i64 b.type, .int .i64 b.ttl, .int .i64 b.addr, ut, ux, ui]] w fun e w' => e = .returned (.bool (rrSame a b)) ∧ Below w.heap.size w w' := by
 obtain ⟨na, nc, rfl, _⟩ := h.name.form
 obtain ⟨ta, tc, rfl, _⟩ := h.to.form
 obtain ⟨xa, xc, rfl, _⟩ := h.text.form
 obtain ⟨ia, ic, rfl, _⟩ := h.nums.form
 obtain ⟨na', nc', rfl, _⟩ := h'.name.form
 obtain ⟨ta', tc', rfl, _⟩ := h'.to.form
 obtain ⟨xa', xc', rfl, _⟩ := h'.text.form
 obtain ⟨ia', ic', rfl, _⟩ := h'.nums.form
 have b0 := below2 w (.cells #[.slice na a.name.length nc, .int .i64 a.type, .int .i64 a.ttl, .int .i64 a.addr, .slice ta a.to.length tc, .slice xa a.text.length xc, .slice ia a.nums.length ic] 34) (.cells #[.slice na' b.name.length nc', .int .i64 b.type, .int .i64 b.ttl, .int .i64 b.addr, .slice ta' b.to.length tc', .slice xa' b.text.length xc', .slice ia' b.nums.length ic'] 34)
 obtain ⟨hsz, k0, x0⟩ := box2 w (.cells #[.slice na a.name.length nc, .int .i64 a.type, .int .i64 a.ttl, .int .i64 a.addr, .slice ta a.to.length tc, .slice xa a.text.length xc, .slice ia a.nums.length ic] 34) #[.slice na' b.name.length nc', .int .i64 b.type, .int .i64 b.ttl, .int .i64 b.addr, .slice ta' b.to.length tc', .slice xa' b.text.length xc', .slice ia' b.nums.length ic'] 34
 have K0 := hide k0
 have X0 := hide x0
 have H0 := hide (h.below b0)
 have J0 := hide (h'.below b0)
 clear h h' k0 x0
 have HA := hide (fun (w : World) (vn vt vx vi : Value) (h : HasR w vn vt vx vi a) => specRrOk_has h)
 have HB := hide (fun (w : World) (vn vt vx vi : Value) (h : HasR w vn vt vx vi b) => specRrOk_has h)
 have HC := hide (show ∀ (w : World) (vn vt vx vi un ut ux ui : Value), HasR w vn vt vx vi a → HasR w un ut ux ui b → rrOk a = true → rrOk b = true → Calls Try.prog 53 #[.agg #[vn, .int .i64 a.type, .int .i64 a.ttl, .int .i64 a.addr, vt, vx, vi], .agg #[un, .int .i64 b.type, .int .i64 b.ttl, .int .i64 b.addr, ut, ux, ui]] w fun e w' => e = .returned (.int .i64 (cmpR a b)) ∧ Below w.heap.size w w' from fun w vn vt vx vi un ut ux ui h h' ha hb => l3cmp_has h h' ha hb)
 unfold rrSame
 generalize cmpR a b = R at *
 cases hA : rrOk a with
 | false =>
  rw [Bool.false_and]
  rw [hA] at HA
  go_enter Try.func11, Try.ntmps11
  go_wp2_with fail
  generalize (w.alloc (.cells #[.slice na a.name.length nc, .int .i64 a.type, .int .i64 a.ttl, .int .i64 a.addr, .slice ta a.to.length tc, .slice xa a.text.length xc, .slice ia a.nums.length ic] 34)).alloc (.cells #[.slice na' b.name.length nc', .int .i64 b.type, .int .i64 b.ttl, .int .i64 b.addr, .slice ta' b.to.length tc', .slice xa' b.text.length xc', .slice ia' b.nums.length ic'] 34) = W at *
  refine (unhide HA _ _ _ _ _ (unhide H0)).mono ?_
  rintro e w1 ⟨rfl, b1⟩
  go_wp2_with fail
  go_ret
  exact ⟨rfl, below_next b0 b1⟩
 | true =>
  rw [hA] at HA
  have HTA := hide hA
  clear hA
  rw [Bool.true_and]
  cases hB : rrOk b with
  | false =>
   rw [Bool.false_and]
   rw [hB] at HB
   go_enter Try.func11, Try.ntmps11
   go_wp2_with fail
   generalize (w.alloc (.cells #[.slice na a.name.length nc, .int .i64 a.type, .int .i64 a.ttl, .int .i64 a.addr, .slice ta a.to.length tc, .slice xa a.text.length xc, .slice ia a.nums.length ic] 34)).alloc (.cells #[.slice na' b.name.length nc', .int .i64 b.type, .int .i64 b.ttl, .int .i64 b.addr, .slice ta' b.to.length tc', .slice xa' b.text.length xc', .slice ia' b.nums.length ic'] 34) = W at *
   refine (unhide HA _ _ _ _ _ (unhide H0)).mono ?_
   rintro e w1 ⟨rfl, b1⟩
   have bb1 := below_next b0 b1
   have K1 := hide (block_kept b1 (unhide K0))
   have X1 := hide (block_kept b1 (unhide X0))
   have H1 := hide ((unhide H0).below b1)
   have J1 := hide ((unhide J0).below b1)
   clear K0 X0 H0 J0 b1
   obtain ⟨d0, d1, d2, d3, d4, d5, d6⟩ := cells7 (unhide K1)
   obtain ⟨f0, f1, f2, f3, f4, f5, f6⟩ := cells7 (unhide X1)
   go_wp2_with fail
   refine (unhide HB _ _ _ _ _ (unhide J1)).mono ?_
   rintro e w2 ⟨rfl, b2⟩
   go_wp2_with fail
   go_ret
   exact ⟨rfl, below_next bb1 b2⟩
  | true =>
   rw [Bool.true_and]
   rw [hB] at HB
   have HTB := hide hB
   clear hB
   go_enter Try.func11, Try.ntmps11
   go_wp2_with fail
   generalize (w.alloc (.cells #[.slice na a.name.length nc, .int .i64 a.type, .int .i64 a.ttl, .int .i64 a.addr, .slice ta a.to.length tc, .slice xa a.text.length xc, .slice ia a.nums.length ic] 34)).alloc (.cells #[.slice na' b.name.length nc', .int .i64 b.type, .int .i64 b.ttl, .int .i64 b.addr, .slice ta' b.to.length tc', .slice xa' b.text.length xc', .slice ia' b.nums.length ic'] 34) = W at *
   refine (unhide HA _ _ _ _ _ (unhide H0)).mono ?_
   rintro e w1 ⟨rfl, b1⟩
   have bb1 := below_next b0 b1
   have K1 := hide (block_kept b1 (unhide K0))
   have X1 := hide (block_kept b1 (unhide X0))
   have H1 := hide ((unhide H0).below b1)
   have J1 := hide ((unhide J0).below b1)
   clear K0 X0 H0 J0 b1
   obtain ⟨d0, d1, d2, d3, d4, d5, d6⟩ := cells7 (unhide K1)
   obtain ⟨f0, f1, f2, f3, f4, f5, f6⟩ := cells7 (unhide X1)
   go_wp2_with fail
   refine (unhide HB _ _ _ _ _ (unhide J1)).mono ?_
   rintro e w2 ⟨rfl, b2⟩
   clear d0 d1 d2 d3 d4 d5 d6 f0 f1 f2 f3 f4 f5 f6
   have bb2 := below_next bb1 b2
   have K2 := hide (block_kept b2 (unhide K1))
   have X2 := hide (block_kept b2 (unhide X1))
   have H2 := hide ((unhide H1).below b2)
   have J2 := hide ((unhide J1).below b2)
   clear K1 X1 H1 J1 b2
   obtain ⟨d0, d1, d2, d3, d4, d5, d6⟩ := cells7 (unhide K2)
   obtain ⟨f0, f1, f2, f3, f4, f5, f6⟩ := cells7 (unhide X2)
   go_wp2_with fail
   refine (unhide HC _ _ _ _ _ _ _ _ _ (unhide H2) (unhide J2) (unhide HTA) (unhide HTB)).mono ?_
   rintro e w3 ⟨rfl, b3⟩
   go_wp2_with fail
   go_ret
   exact ⟨rfl, below_next bb2 b3⟩
end Go.Proofs.Ytjgfljndeolmoaa

namespace Go.Proofs.Ytjgfljndeolmoaa
open Go.RowKit

end Go.Proofs.Ytjgfljndeolmoaa

namespace Go.Proofs.Ytjgfljndeolmoaa
open Go.RowKit

end Go.Proofs.Ytjgfljndeolmoaa

namespace Go.Proofs.Ytjgfljndeolmoaa
open Go.RowKit

theorem byLength_swap (x y : Int) : byLength x y = - byLength y x := by
 unfold byLength
 by_cases h1 : x < y
 ·simp [h1, show ¬ y < x by omega]
 ·by_cases h2 : y < x
  ·simp [h1, h2]
  ·simp [h1, h2]
theorem cmpR_swap (a b : Rec) : cmpR a b = - cmpR b a := by
 unfold cmpR
 have h1 := cmpN_swap a.name b.name
 have h2 := byLength_swap a.type b.type
 have h3 := cmpB_swap (dataB a) (dataB b)
 by_cases e1 : cmpN b.name a.name = 0
 ·rw [e1] at h1
  by_cases e2 : byLength b.type a.type = 0
  ·rw [e2] at h2
   simp only [h1, h2, e1, e2]
   simpa using h3
  ·have e2' : byLength a.type b.type ≠ 0 := by omega
   simp only [h1, e1]
   simp [e2, e2']
   exact h2
 ·have e1' : cmpN a.name b.name ≠ 0 := by omega
  simp [e1, e1']
  exact h1
theorem cmpR_self (a : Rec) : cmpR a a = 0 := by
 have := cmpR_swap a a
 omega
end Go.Proofs.Ytjgfljndeolmoaa
