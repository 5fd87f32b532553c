/-
  Contracts of the specification's l3num and l3cmp.
-/
import Derived.Test.YtpolekinfobecaaGreatCacheTickG14
import Derived.Test.YtpolekinfobecaaGreatCacheTickG35
import Derived.Test.YtpolekinfobecaaGreatCacheTickG36
import Derived.Test.YtpolekinfobecaaGreatCacheTickG10
import Derived.Deep.RegionHeld3
import Derived.Deep.RegionWith
namespace Go.Proofs.YtpolekinfobecaaGreat
open Go.RowKit
set_option linter.unusedVariables false

set_option maxHeartbeats 400000 in
set_option maxRecDepth 100000 in
theorem l3num_any (x y : Int) (w : World) : Calls Tryz.prog 69 #[.int .i64 x, .int .i64 y] w fun e w' => e = .returned (.int .i64 (byLength x y)) ∧ w = w' := by
 unfold byLength
 by_cases h1 : x < y
 ·rw [if_pos h1]
  go_enter Tryz.func69, Tryz.ntmps69
  go_wp2
  go_ret
  exact ⟨rfl, rfl⟩
 ·rw [if_neg h1]
  by_cases h2 : y < x
  ·rw [if_pos h2]
   go_enter Tryz.func69, Tryz.ntmps69
   go_wp2
   go_ret
   exact ⟨rfl, rfl⟩
  ·rw [if_neg h2]
   go_enter Tryz.func69, Tryz.ntmps69
   go_wp2
   go_ret
   exact ⟨rfl, rfl⟩

set_option maxHeartbeats 1000000 in
set_option maxRecDepth 100000 in
theorem l3cmp_has {vn vt vx vi un ut ux ui : Value} {a b : Rec} {w : World} (h : HasR w vn vt vx vi a) (h' : HasR w un ut ux ui b) (ha : rrOk a = true) (hb : rrOk b = true) :
  Calls Tryz.prog 46 #[.agg #[vn, .int .i64 a.type, .int .i64 a.ttl, .int .i64 a.addr, vt, vx, vi], .agg #[un, .int .i64 b.type, .int .i64 b.ttl, .int .i64 b.addr, ut, ux, ui]] w fun e w' => e = .returned (.int .i64 (cmpR a b)) ∧ Below w.heap.size w w' := by
 obtain ⟨na, nc, rfl, _⟩ := h.name.form
 obtain ⟨ta, tc, rfl, _⟩ := h.to.form
 obtain ⟨xa, xc, rfl, _⟩ := h.text.form
 obtain ⟨ia, ic, rfl, _⟩ := h.nums.form
 obtain ⟨na', nc', rfl, _⟩ := h'.name.form
 obtain ⟨ta', tc', rfl, _⟩ := h'.to.form
 obtain ⟨xa', xc', rfl, _⟩ := h'.text.form
 obtain ⟨ia', ic', rfl, _⟩ := h'.nums.form
 have b0 := below2 w (.cells #[.slice na a.name.length nc, .int .i64 a.type, .int .i64 a.ttl, .int .i64 a.addr, .slice ta a.to.length tc, .slice xa a.text.length xc, .slice ia a.nums.length ic] 56) (.cells #[.slice na' b.name.length nc', .int .i64 b.type, .int .i64 b.ttl, .int .i64 b.addr, .slice ta' b.to.length tc', .slice xa' b.text.length xc', .slice ia' b.nums.length ic'] 56)
 obtain ⟨hsz, k0, x0⟩ := box2 w (.cells #[.slice na a.name.length nc, .int .i64 a.type, .int .i64 a.ttl, .int .i64 a.addr, .slice ta a.to.length tc, .slice xa a.text.length xc, .slice ia a.nums.length ic] 56) #[.slice na' b.name.length nc', .int .i64 b.type, .int .i64 b.ttl, .int .i64 b.addr, .slice ta' b.to.length tc', .slice xa' b.text.length xc', .slice ia' b.nums.length ic'] 56
 have K0 := hide k0
 have X0 := hide x0
 have H0 := hide (h.below b0)
 have J0 := hide (h'.below b0)
 clear h h' k0 x0
 have hna := (nameOk_parts (rrOk_parts ha).1).1
 have hnb := (nameOk_parts (rrOk_parts hb).1).1
 have HC := hide (fun (w : World) (v v' : Value) (h : HasL w v a.name) (h' : HasL w v' b.name) => l2cmp_has h h' (by omega) (by omega))
 have HPa := hide (fun (w : World) (vn vt vx vi : Value) (h : HasR w vn vt vx vi a) => l3put_has h ha)
 have HPb := hide (fun (w : World) (vn vt vx vi : Value) (h : HasR w vn vt vx vi b) => l3put_has h hb)
 have HL := hide (l3num_any a.type b.type)
 have HB := hide (fun (w : World) (v v' : Value) (h : Has w v (dataB a)) (h' : Has w v' (dataB b)) => l2bytes_has h h')
 clear ha hb hna hnb
 unfold cmpR
 generalize dataB a = DA at *
 generalize dataB b = DB at *
 generalize cmpB DA DB = CB at *
 generalize cmpN a.name b.name = CN at *
 generalize byLength a.type b.type = CL at *
 by_cases e1 : CN = 0
 ·subst e1
  rw [if_neg (by simp)]
  by_cases e2 : CL = 0
  ·subst e2
   rw [if_neg (by simp)]
   go_enter Tryz.func46, Tryz.ntmps46
   go_wp2_with fail
   generalize (w.alloc (.cells #[.slice na a.name.length nc, .int .i64 a.type, .int .i64 a.ttl, .int .i64 a.addr, .slice ta a.to.length tc, .slice xa a.text.length xc, .slice ia a.nums.length ic] 56)).alloc (.cells #[.slice na' b.name.length nc', .int .i64 b.type, .int .i64 b.ttl, .int .i64 b.addr, .slice ta' b.to.length tc', .slice xa' b.text.length xc', .slice ia' b.nums.length ic'] 56) = W at *
   refine (unhide HC _ _ _ (unhide H0).name (unhide J0).name).mono ?_
   rintro e w1 ⟨rfl, b1⟩
   have bb1 := below_next b0 b1
   have K1 := hide (block_kept b1 (unhide K0))
   have X1 := hide (block_kept b1 (unhide X0))
   have H1 := hide ((unhide H0).below b1)
   have J1 := hide ((unhide J0).below b1)
   clear K0 X0 H0 J0 b1
   obtain ⟨d0, d1, d2, d3, d4, d5, d6⟩ := cells7 (unhide K1)
   obtain ⟨f0, f1, f2, f3, f4, f5, f6⟩ := cells7 (unhide X1)
   go_wp2_with fail
   refine (unhide HL _).mono ?_
   rintro e w2 ⟨rfl, rfl⟩
   clear d0 d1 d2 d3 d4 d5 d6 f0 f1 f2 f3 f4 f5 f6
   have bd := below_drew (w := w1)
   have bb2 := below_next bb1 bd
   have K2 := hide (block_kept bd (unhide K1))
   have X2 := hide (block_kept bd (unhide X1))
   have H2 := hide ((unhide H1).below bd)
   have J2 := hide ((unhide J1).below bd)
   clear K1 X1 H1 J1 bd
   obtain ⟨d0, d1, d2, d3, d4, d5, d6⟩ := cells7 (unhide K2)
   obtain ⟨f0, f1, f2, f3, f4, f5, f6⟩ := cells7 (unhide X2)
   go_wp2_with fail
   clear d0 d1 d2 d3 d4 d5 d6 f0 f1 f2 f3 f4 f5 f6
   go_region_held3 (fun w' => (w'.cell? ⟨w.heap.size, 0, none⟩ = some (.slice na a.name.length nc) ∧ w'.cell? ⟨w.heap.size, 1, none⟩ = some (.int .i64 a.type) ∧ w'.cell? ⟨w.heap.size, 2, none⟩ = some (.int .i64 a.ttl) ∧ w'.cell? ⟨w.heap.size, 3, none⟩ = some (.int .i64 a.addr) ∧ w'.cell? ⟨w.heap.size, 4, none⟩ = some (.slice ta a.to.length tc) ∧ w'.cell? ⟨w.heap.size, 5, none⟩ = some (.slice xa a.text.length xc) ∧ w'.cell? ⟨w.heap.size, 6, none⟩ = some (.slice ia a.nums.length ic)) ∧ (w'.cell? ⟨w.heap.size + 1, 0, none⟩ = some (.slice na' b.name.length nc') ∧ w'.cell? ⟨w.heap.size + 1, 1, none⟩ = some (.int .i64 b.type) ∧ w'.cell? ⟨w.heap.size + 1, 2, none⟩ = some (.int .i64 b.ttl) ∧ w'.cell? ⟨w.heap.size + 1, 3, none⟩ = some (.int .i64 b.addr) ∧ w'.cell? ⟨w.heap.size + 1, 4, none⟩ = some (.slice ta' b.to.length tc') ∧ w'.cell? ⟨w.heap.size + 1, 5, none⟩ = some (.slice xa' b.text.length xc') ∧ w'.cell? ⟨w.heap.size + 1, 6, none⟩ = some (.slice ia' b.nums.length ic')))
    (first | exact ⟨cells7 (unhide K2), cells7 (unhide X2)⟩ | exact ⟨cells7 (block_kept b3 (unhide K2)), cells7 (block_kept b3 (unhide X2))⟩ | exact ⟨cells7 (block_kept q4 (unhide K2)), cells7 (block_kept q4 (unhide X2))⟩ | exact ⟨cells7 (block_kept q5 (unhide K2)), cells7 (block_kept q5 (unhide X2))⟩)
    (first
    | (go_at_call_of 70 (Value.slice na a.name.length nc); refine (unhide HPa _ _ _ _ _ (unhide H2)).mono ?_; rintro e w3 ⟨y3, rfl, o3, b3⟩)
    | (go_at_call_of 70 (Value.slice na' b.name.length nc'); refine (unhide HPb _ _ _ _ _ ((unhide J2).below b3)).mono ?_; rintro e w4 ⟨y4, rfl, o4, b4⟩; have q4 := below_next b3 b4)
    | (go_at_call 47; refine (unhide HB _ _ _ (o3.below b4).has o4.has).mono ?_; rintro e w5 ⟨rfl, rfl⟩; have q5 := q4))
   go_wp2_with fail
   go_ret
   exact ⟨rfl, below_next bb2 q5⟩
  ·rw [if_pos e2]
   have f2 : (CL == 0) = false := by rw [beq_eq_false_iff_ne]; exact e2
   go_enter Tryz.func46, Tryz.ntmps46
   go_wp2_with fail
   generalize (w.alloc (.cells #[.slice na a.name.length nc, .int .i64 a.type, .int .i64 a.ttl, .int .i64 a.addr, .slice ta a.to.length tc, .slice xa a.text.length xc, .slice ia a.nums.length ic] 56)).alloc (.cells #[.slice na' b.name.length nc', .int .i64 b.type, .int .i64 b.ttl, .int .i64 b.addr, .slice ta' b.to.length tc', .slice xa' b.text.length xc', .slice ia' b.nums.length ic'] 56) = W at *
   refine (unhide HC _ _ _ (unhide H0).name (unhide J0).name).mono ?_
   rintro e w1 ⟨rfl, b1⟩
   have bb1 := below_next b0 b1
   have K1 := hide (block_kept b1 (unhide K0))
   have X1 := hide (block_kept b1 (unhide X0))
   have H1 := hide ((unhide H0).below b1)
   have J1 := hide ((unhide J0).below b1)
   clear K0 X0 H0 J0 b1
   obtain ⟨d0, d1, d2, d3, d4, d5, d6⟩ := cells7 (unhide K1)
   obtain ⟨f0, f1, f9, f3, f4, f5, f6⟩ := cells7 (unhide X1)
   go_wp2_with fail
   refine (unhide HL _).mono ?_
   rintro e w2 ⟨rfl, rfl⟩
   go_wp2_with fail
   go_ret
   exact ⟨rfl, bb1⟩
 ·rw [if_pos e1]
  have f1 : (CN == 0) = false := by rw [beq_eq_false_iff_ne]; exact e1
  go_enter Tryz.func46, Tryz.ntmps46
  go_wp2_with fail
  generalize (w.alloc (.cells #[.slice na a.name.length nc, .int .i64 a.type, .int .i64 a.ttl, .int .i64 a.addr, .slice ta a.to.length tc, .slice xa a.text.length xc, .slice ia a.nums.length ic] 56)).alloc (.cells #[.slice na' b.name.length nc', .int .i64 b.type, .int .i64 b.ttl, .int .i64 b.addr, .slice ta' b.to.length tc', .slice xa' b.text.length xc', .slice ia' b.nums.length ic'] 56) = W at *
  refine (unhide HC _ _ _ (unhide H0).name (unhide J0).name).mono ?_
  rintro e w1 ⟨rfl, b1⟩
  go_wp2_with fail
  go_ret
  exact ⟨rfl, below_next b0 b1⟩
end Go.Proofs.YtpolekinfobecaaGreat
