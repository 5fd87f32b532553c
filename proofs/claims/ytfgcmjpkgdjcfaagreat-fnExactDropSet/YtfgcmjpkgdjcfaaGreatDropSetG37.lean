/-
  Contracts of the specification's l3num and l3cmp. Contract of the specification's l5drop. Contracts of the specification's l2own: a name of its own with the same labels. Plain facts: how long a drawn name is. No program is named here.
-/
import Derived.Test.YtfgcmjpkgdjcfaaGreatDropSetG14
import Derived.Test.YtfgcmjpkgdjcfaaGreatDropSetG36
import Derived.Test.YtfgcmjpkgdjcfaaGreatDropSetG35
import Derived.Test.YtfgcmjpkgdjcfaaGreatDropSetG04
import Derived.Deep.RegionHeld3
import Derived.Deep.RegionWith
import Derived.Test.YtfgcmjpkgdjcfaaGreatDropSetG20
import Derived.Test.YtfgcmjpkgdjcfaaGreatDropSetG34
import Derived.Test.YtfgcmjpkgdjcfaaGreatDropSetG05
import Derived.RangeFuncBox
import Derived.Test.YtfgcmjpkgdjcfaaGreatDropSetG17
import Derived.Test.YtfgcmjpkgdjcfaaGreatDropSetG33
import Derived.Test.YtfgcmjpkgdjcfaaGreatDropSetG09
import Derived.Test.YtfgcmjpkgdjcfaaGreatDropSetG03
import Derived.Test.YtfgcmjpkgdjcfaaGreatDropSetG32
import Derived.Test.YtfgcmjpkgdjcfaaGreatDropSetG06
import Derived.Test.YtfgcmjpkgdjcfaaGreatDropSetG00
namespace Go.Proofs.YtfgcmjpkgdjcfaaGreat
open Go.RowKit
set_option linter.unusedVariables false

set_option maxHeartbeats 400000 in
set_option maxRecDepth 100000 in
theorem l3num_any (x y : Int) (w : World) : Calls Tryz.prog 91 #[.int .i64 x, .int .i64 y] w fun e w' => e = .returned (.int .i64 (byLength x y)) ∧ w = w' := by
 unfold byLength
 by_cases h1 : x < y
 ·rw [if_pos h1]
  go_enter Tryz.func91, Tryz.ntmps91
  go_wp2
  go_ret
  exact ⟨rfl, rfl⟩
 ·rw [if_neg h1]
  by_cases h2 : y < x
  ·rw [if_pos h2]
   go_enter Tryz.func91, Tryz.ntmps91
   go_wp2
   go_ret
   exact ⟨rfl, rfl⟩
  ·rw [if_neg h2]
   go_enter Tryz.func91, Tryz.ntmps91
   go_wp2
   go_ret
   exact ⟨rfl, rfl⟩

set_option maxHeartbeats 1000000 in
set_option maxRecDepth 100000 in
theorem l3cmp_has {vn vt vx vi un ut ux ui : Value} {a b : Rec} {w : World} (h : HasR w vn vt vx vi a) (h' : HasR w un ut ux ui b) (ha : rrOk a = true) (hb : rrOk b = true) :
  Calls Tryz.prog 56 #[.agg #[vn, .int .i64 a.type, .int .i64 a.ttl, .int .i64 a.addr, vt, vx, vi], .agg #[un, .int .i64 b.type, .int .i64 b.ttl, .int .i64 b.addr, ut, ux, ui]] w fun e w' => e = .returned (.int .i64 (cmpR a b)) ∧ Below w.heap.size w w' := by
 obtain ⟨na, nc, rfl, _⟩ := h.name.form
 obtain ⟨ta, tc, rfl, _⟩ := h.to.form
 obtain ⟨xa, xc, rfl, _⟩ := h.text.form
 obtain ⟨ia, ic, rfl, _⟩ := h.nums.form
 obtain ⟨na', nc', rfl, _⟩ := h'.name.form
 obtain ⟨ta', tc', rfl, _⟩ := h'.to.form
 obtain ⟨xa', xc', rfl, _⟩ := h'.text.form
 obtain ⟨ia', ic', rfl, _⟩ := h'.nums.form
 have b0 := below2 w (.cells #[.slice na a.name.length nc, .int .i64 a.type, .int .i64 a.ttl, .int .i64 a.addr, .slice ta a.to.length tc, .slice xa a.text.length xc, .slice ia a.nums.length ic] 59) (.cells #[.slice na' b.name.length nc', .int .i64 b.type, .int .i64 b.ttl, .int .i64 b.addr, .slice ta' b.to.length tc', .slice xa' b.text.length xc', .slice ia' b.nums.length ic'] 59)
 obtain ⟨hsz, k0, x0⟩ := box2 w (.cells #[.slice na a.name.length nc, .int .i64 a.type, .int .i64 a.ttl, .int .i64 a.addr, .slice ta a.to.length tc, .slice xa a.text.length xc, .slice ia a.nums.length ic] 59) #[.slice na' b.name.length nc', .int .i64 b.type, .int .i64 b.ttl, .int .i64 b.addr, .slice ta' b.to.length tc', .slice xa' b.text.length xc', .slice ia' b.nums.length ic'] 59
 have K0 := hide k0
 have X0 := hide x0
 have H0 := hide (h.below b0)
 have J0 := hide (h'.below b0)
 clear h h' k0 x0
 have hna := (nameOk_parts (rrOk_parts ha).1).1
 have hnb := (nameOk_parts (rrOk_parts hb).1).1
 have HC := hide (fun (w : World) (v v' : Value) (h : HasL w v a.name) (h' : HasL w v' b.name) => l2cmp_has h h' (by omega) (by omega))
 have HPa := hide (fun (w : World) (vn vt vx vi : Value) (h : HasR w vn vt vx vi a) => l3put_has h ha)
 have HPb := hide (fun (w : World) (vn vt vx vi : Value) (h : HasR w vn vt vx vi b) => l3put_has h hb)
 have HL := hide (l3num_any a.type b.type)
 have HB := hide (fun (w : World) (v v' : Value) (h : Has w v (dataB a)) (h' : Has w v' (dataB b)) => l2bytes_has h h')
 clear ha hb hna hnb
 unfold cmpR
 generalize dataB a = DA at *
 generalize dataB b = DB at *
 generalize cmpB DA DB = CB at *
 generalize cmpN a.name b.name = CN at *
 generalize byLength a.type b.type = CL at *
 by_cases e1 : CN = 0
 ·subst e1
  rw [if_neg (by simp)]
  by_cases e2 : CL = 0
  ·subst e2
   rw [if_neg (by simp)]
   go_enter Tryz.func56, Tryz.ntmps56
   go_wp2_with fail
   generalize (w.alloc (.cells #[.slice na a.name.length nc, .int .i64 a.type, .int .i64 a.ttl, .int .i64 a.addr, .slice ta a.to.length tc, .slice xa a.text.length xc, .slice ia a.nums.length ic] 59)).alloc (.cells #[.slice na' b.name.length nc', .int .i64 b.type, .int .i64 b.ttl, .int .i64 b.addr, .slice ta' b.to.length tc', .slice xa' b.text.length xc', .slice ia' b.nums.length ic'] 59) = W at *
   refine (unhide HC _ _ _ (unhide H0).name (unhide J0).name).mono ?_
   rintro e w1 ⟨rfl, b1⟩
   have bb1 := below_next b0 b1
   have K1 := hide (block_kept b1 (unhide K0))
   have X1 := hide (block_kept b1 (unhide X0))
   have H1 := hide ((unhide H0).below b1)
   have J1 := hide ((unhide J0).below b1)
   clear K0 X0 H0 J0 b1
   obtain ⟨d0, d1, d2, d3, d4, d5, d6⟩ := cells7 (unhide K1)
   obtain ⟨f0, f1, f2, f3, f4, f5, f6⟩ := cells7 (unhide X1)
   go_wp2_with fail
   refine (unhide HL _).mono ?_
   rintro e w2 ⟨rfl, rfl⟩
   clear d0 d1 d2 d3 d4 d5 d6 f0 f1 f2 f3 f4 f5 f6
   have bd := below_drew (w := w1)
   have bb2 := below_next bb1 bd
   have K2 := hide (block_kept bd (unhide K1))
   have X2 := hide (block_kept bd (unhide X1))
   have H2 := hide ((unhide H1).below bd)
   have J2 := hide ((unhide J1).below bd)
   clear K1 X1 H1 J1 bd
   obtain ⟨d0, d1, d2, d3, d4, d5, d6⟩ := cells7 (unhide K2)
   obtain ⟨f0, f1, f2, f3, f4, f5, f6⟩ := cells7 (unhide X2)
   go_wp2_with fail
   clear d0 d1 d2 d3 d4 d5 d6 f0 f1 f2 f3 f4 f5 f6
   go_region_held3 (fun w' => (w'.cell? ⟨w.heap.size, 0, none⟩ = some (.slice na a.name.length nc) ∧ w'.cell? ⟨w.heap.size, 1, none⟩ = some (.int .i64 a.type) ∧ w'.cell? ⟨w.heap.size, 2, none⟩ = some (.int .i64 a.ttl) ∧ w'.cell? ⟨w.heap.size, 3, none⟩ = some (.int .i64 a.addr) ∧ w'.cell? ⟨w.heap.size, 4, none⟩ = some (.slice ta a.to.length tc) ∧ w'.cell? ⟨w.heap.size, 5, none⟩ = some (.slice xa a.text.length xc) ∧ w'.cell? ⟨w.heap.size, 6, none⟩ = some (.slice ia a.nums.length ic)) ∧ (w'.cell? ⟨w.heap.size + 1, 0, none⟩ = some (.slice na' b.name.length nc') ∧ w'.cell? ⟨w.heap.size + 1, 1, none⟩ = some (.int .i64 b.type) ∧ w'.cell? ⟨w.heap.size + 1, 2, none⟩ = some (.int .i64 b.ttl) ∧ w'.cell? ⟨w.heap.size + 1, 3, none⟩ = some (.int .i64 b.addr) ∧ w'.cell? ⟨w.heap.size + 1, 4, none⟩ = some (.slice ta' b.to.length tc') ∧ w'.cell? ⟨w.heap.size + 1, 5, none⟩ = some (.slice xa' b.text.length xc') ∧ w'.cell? ⟨w.heap.size + 1, 6, none⟩ = some (.slice ia' b.nums.length ic')))
    (first | exact ⟨cells7 (unhide K2), cells7 (unhide X2)⟩ | exact ⟨cells7 (block_kept b3 (unhide K2)), cells7 (block_kept b3 (unhide X2))⟩ | exact ⟨cells7 (block_kept q4 (unhide K2)), cells7 (block_kept q4 (unhide X2))⟩ | exact ⟨cells7 (block_kept q5 (unhide K2)), cells7 (block_kept q5 (unhide X2))⟩)
    (first
    | (go_at_call_of 93 (Value.slice na a.name.length nc); refine (unhide HPa _ _ _ _ _ (unhide H2)).mono ?_; rintro e w3 ⟨y3, rfl, o3, b3⟩)
    | (go_at_call_of 93 (Value.slice na' b.name.length nc'); refine (unhide HPb _ _ _ _ _ ((unhide J2).below b3)).mono ?_; rintro e w4 ⟨y4, rfl, o4, b4⟩; have q4 := below_next b3 b4)
    | (go_at_call 92; refine (unhide HB _ _ _ (o3.below b4).has o4.has).mono ?_; rintro e w5 ⟨rfl, rfl⟩; have q5 := q4))
   go_wp2_with fail
   go_ret
   exact ⟨rfl, below_next bb2 q5⟩
  ·rw [if_pos e2]
   have f2 : (CL == 0) = false := by rw [beq_eq_false_iff_ne]; exact e2
   go_enter Tryz.func56, Tryz.ntmps56
   go_wp2_with fail
   generalize (w.alloc (.cells #[.slice na a.name.length nc, .int .i64 a.type, .int .i64 a.ttl, .int .i64 a.addr, .slice ta a.to.length tc, .slice xa a.text.length xc, .slice ia a.nums.length ic] 59)).alloc (.cells #[.slice na' b.name.length nc', .int .i64 b.type, .int .i64 b.ttl, .int .i64 b.addr, .slice ta' b.to.length tc', .slice xa' b.text.length xc', .slice ia' b.nums.length ic'] 59) = W at *
   refine (unhide HC _ _ _ (unhide H0).name (unhide J0).name).mono ?_
   rintro e w1 ⟨rfl, b1⟩
   have bb1 := below_next b0 b1
   have K1 := hide (block_kept b1 (unhide K0))
   have X1 := hide (block_kept b1 (unhide X0))
   have H1 := hide ((unhide H0).below b1)
   have J1 := hide ((unhide J0).below b1)
   clear K0 X0 H0 J0 b1
   obtain ⟨d0, d1, d2, d3, d4, d5, d6⟩ := cells7 (unhide K1)
   obtain ⟨f0, f1, f9, f3, f4, f5, f6⟩ := cells7 (unhide X1)
   go_wp2_with fail
   refine (unhide HL _).mono ?_
   rintro e w2 ⟨rfl, rfl⟩
   go_wp2_with fail
   go_ret
   exact ⟨rfl, bb1⟩
 ·rw [if_pos e1]
  have f1 : (CN == 0) = false := by rw [beq_eq_false_iff_ne]; exact e1
  go_enter Tryz.func56, Tryz.ntmps56
  go_wp2_with fail
  generalize (w.alloc (.cells #[.slice na a.name.length nc, .int .i64 a.type, .int .i64 a.ttl, .int .i64 a.addr, .slice ta a.to.length tc, .slice xa a.text.length xc, .slice ia a.nums.length ic] 59)).alloc (.cells #[.slice na' b.name.length nc', .int .i64 b.type, .int .i64 b.ttl, .int .i64 b.addr, .slice ta' b.to.length tc', .slice xa' b.text.length xc', .slice ia' b.nums.length ic'] 59) = W at *
  refine (unhide HC _ _ _ (unhide H0).name (unhide J0).name).mono ?_
  rintro e w1 ⟨rfl, b1⟩
  go_wp2_with fail
  go_ret
  exact ⟨rfl, below_next b0 b1⟩
end Go.Proofs.YtfgcmjpkgdjcfaaGreat

namespace Go.Proofs.YtfgcmjpkgdjcfaaGreat
open Go.RowKit
set_option linter.unusedVariables false

set_option maxHeartbeats 8000000 in
set_option maxRecDepth 100000 in
theorem l5drop_false {vo vr vq un ut ux ui : Value} {o n : List (List Int)} {rs : List Rec} {u : Rec} {w : World} (t : Int) (h : HasZ w vo vr o rs) (hq : HasL w vq n) (hx : HasR w un ut ux ui u) (h60 : rs.length ≤ 60) (hn : n.length ≤ 1048576) (hok : ∀ k, k < rs.length → rrOk (rs.getD k recZ) = true) (hone : True) :
  Calls Tryz.prog 26 #[.agg #[vo, vr], .agg #[vq], .int .i64 t, .bool false, .agg #[un, .int .i64 u.type, .int .i64 u.ttl, .int .i64 u.addr, ut, ux, ui]] w fun e w' => ∃ v', e = .returned (.tuple #[.agg #[vo, v'], .int .i64 (goneK (goneB n t false u) rs rs.length)]) ∧ HasZ w' vo v' o (keepK (goneB n t false u) rs rs.length) ∧ Below w.heap.size w w' := by
 obtain ⟨oa, oc, rfl, _⟩ := h.name.form
 obtain ⟨ra, rc, rfl, _⟩ := h.recs.form
 obtain ⟨qa, qc, rfl, _⟩ := hq.form
 obtain ⟨una, unc, rfl, _⟩ := hx.name.form
 obtain ⟨uta, utc, rfl, _⟩ := hx.to.form
 obtain ⟨uxa, uxc, rfl, _⟩ := hx.text.form
 obtain ⟨uia, uic, rfl, _⟩ := hx.nums.form
 obtain ⟨hsz, k0, x0⟩ := box2 w (.cells #[.slice oa o.length oc, .slice ra rs.length rc] 33) #[.slice qa n.length qc] 30
 have b0 := below2 w (.cells #[.slice oa o.length oc, .slice ra rs.length rc] 33) (.cells #[.slice qa n.length qc] 30)
 have b1 := below_alloc (w := (w.alloc (.cells #[.slice oa o.length oc, .slice ra rs.length rc] 33)).alloc (.cells #[.slice qa n.length qc] 30)) (.cells #[.slice una u.name.length unc, .int .i64 u.type, .int .i64 u.ttl, .int .i64 u.addr, .slice uta u.to.length utc, .slice uxa u.text.length uxc, .slice uia u.nums.length uic] 59)
 have u0 := heap_alloc_new ((w.alloc (.cells #[.slice oa o.length oc, .slice ra rs.length rc] 33)).alloc (.cells #[.slice qa n.length qc] 30)) (.cells #[.slice una u.name.length unc, .int .i64 u.type, .int .i64 u.ttl, .int .i64 u.addr, .slice uta u.to.length utc, .slice uxa u.text.length uxc, .slice uia u.nums.length uic] 59)
 have hs1 : (((w.alloc (.cells #[.slice oa o.length oc, .slice ra rs.length rc] 33)).alloc (.cells #[.slice qa n.length qc] 30)).alloc (.cells #[.slice una u.name.length unc, .int .i64 u.type, .int .i64 u.ttl, .int .i64 u.addr, .slice uta u.to.length utc, .slice uxa u.text.length uxc, .slice uia u.nums.length uic] 59)).heap.size = w.heap.size + 3 := by rw [World.size_alloc, hsz]
 rw [hsz] at u0
 have b2 := below_alloc (w := ((w.alloc (.cells #[.slice oa o.length oc, .slice ra rs.length rc] 33)).alloc (.cells #[.slice qa n.length qc] 30)).alloc (.cells #[.slice una u.name.length unc, .int .i64 u.type, .int .i64 u.ttl, .int .i64 u.addr, .slice uta u.to.length utc, .slice uxa u.text.length uxc, .slice uia u.nums.length uic] 59)) (.cells #[.slice none 0 0, .slice none 0 0] 33)
 have r0 := heap_alloc_new (((w.alloc (.cells #[.slice oa o.length oc, .slice ra rs.length rc] 33)).alloc (.cells #[.slice qa n.length qc] 30)).alloc (.cells #[.slice una u.name.length unc, .int .i64 u.type, .int .i64 u.ttl, .int .i64 u.addr, .slice uta u.to.length utc, .slice uxa u.text.length uxc, .slice uia u.nums.length uic] 59)) (.cells #[.slice none 0 0, .slice none 0 0] 33)
 have hs2 : ((((w.alloc (.cells #[.slice oa o.length oc, .slice ra rs.length rc] 33)).alloc (.cells #[.slice qa n.length qc] 30)).alloc (.cells #[.slice una u.name.length unc, .int .i64 u.type, .int .i64 u.ttl, .int .i64 u.addr, .slice uta u.to.length utc, .slice uxa u.text.length uxc, .slice uia u.nums.length uic] 59)).alloc (.cells #[.slice none 0 0, .slice none 0 0] 33)).heap.size = w.heap.size + 4 := by rw [World.size_alloc, hs1]
 rw [hs1] at r0
 have b3 := below_alloc (w := (((w.alloc (.cells #[.slice oa o.length oc, .slice ra rs.length rc] 33)).alloc (.cells #[.slice qa n.length qc] 30)).alloc (.cells #[.slice una u.name.length unc, .int .i64 u.type, .int .i64 u.ttl, .int .i64 u.addr, .slice uta u.to.length utc, .slice uxa u.text.length uxc, .slice uia u.nums.length uic] 59)).alloc (.cells #[.slice none 0 0, .slice none 0 0] 33)) (.cells #[.slice oa o.length oc, .slice none 0 0] 33)
 have t0 := heap_alloc_new ((((w.alloc (.cells #[.slice oa o.length oc, .slice ra rs.length rc] 33)).alloc (.cells #[.slice qa n.length qc] 30)).alloc (.cells #[.slice una u.name.length unc, .int .i64 u.type, .int .i64 u.ttl, .int .i64 u.addr, .slice uta u.to.length utc, .slice uxa u.text.length uxc, .slice uia u.nums.length uic] 59)).alloc (.cells #[.slice none 0 0, .slice none 0 0] 33)) (.cells #[.slice oa o.length oc, .slice none 0 0] 33)
 have hs3 : (((((w.alloc (.cells #[.slice oa o.length oc, .slice ra rs.length rc] 33)).alloc (.cells #[.slice qa n.length qc] 30)).alloc (.cells #[.slice una u.name.length unc, .int .i64 u.type, .int .i64 u.ttl, .int .i64 u.addr, .slice uta u.to.length utc, .slice uxa u.text.length uxc, .slice uia u.nums.length uic] 59)).alloc (.cells #[.slice none 0 0, .slice none 0 0] 33)).alloc (.cells #[.slice oa o.length oc, .slice none 0 0] 33)).heap.size = w.heap.size + 5 := by rw [World.size_alloc, hs2]
 rw [hs2] at t0
 have b23 := below_next b2 b3
 have b13 := below_next b1 b23
 have bb := below_next b0 b13
 have KZ := hide (block_kept b13 k0)
 have KQ := hide (block_kept b13 x0)
 have KU := hide (block_kept b23 u0)
 have KR := hide (block_kept b3 r0)
 have KO := hide t0
 have HE := hide h
 have HQ := hide hq
 have HXX := hide hx
 have HOK := hide hok
 have HONE := hide hone
 obtain ⟨z0, z1⟩ := cells2 (block_kept (below_next b1 b2) k0)
 clear h hq hx hok hone k0 x0 u0 r0 t0 b0 b1 b2 b3 b23 b13 hsz hs1 hs2
 generalize hm : rs.length = m at *
 have HN := hide hm
 clear hm
 go_enter Tryz.func26, Tryz.ntmps26
 go_wp2_with fail
 clear z0 z1
 have zW : w.heap.size + 5 ≤ (((((w.alloc (.cells #[.slice oa o.length oc, .slice ra m rc] 33)).alloc (.cells #[.slice qa n.length qc] 30)).alloc (.cells #[.slice una u.name.length unc, .int .i64 u.type, .int .i64 u.ttl, .int .i64 u.addr, .slice uta u.to.length utc, .slice uxa u.text.length uxc, .slice uia u.nums.length uic] 59)).alloc (.cells #[.slice none 0 0, .slice none 0 0] 33)).alloc (.cells #[.slice oa o.length oc, .slice none 0 0] 33)).heap.size := Nat.le_of_eq hs3.symm
 clear hs3
 generalize ((((w.alloc (.cells #[.slice oa o.length oc, .slice ra m rc] 33)).alloc (.cells #[.slice qa n.length qc] 30)).alloc (.cells #[.slice una u.name.length unc, .int .i64 u.type, .int .i64 u.ttl, .int .i64 u.addr, .slice uta u.to.length utc, .slice uxa u.text.length uxc, .slice uia u.nums.length uic] 59)).alloc (.cells #[.slice none 0 0, .slice none 0 0] 33)).alloc (.cells #[.slice oa o.length oc, .slice none 0 0] 33) = W at *
 go_loopw [13, 14] (fun cnt i wr => ∃ (k : Nat) (v : Value), k ≤ m ∧ i = .int .i64 k ∧ cnt = .int .i64 (goneK (goneB n t false u) rs k) ∧ wr.heap[w.heap.size + 4]? = some (.cells #[.slice oa o.length oc, v] 33) ∧ RowS (w.heap.size + 5) 59 w wr v (keepK (goneB n t false u) rs k) ∧ Below (w.heap.size + 4) W wr) (fun _ i _ => m - (intOf i).toNat)
 case atStart => exact ⟨0, _, Nat.zero_le _, rfl, rfl, unhide KO, RowS.nil _ _ _ _, Below.refl _ _⟩
 case round =>
  obtain ⟨k, v, hk, rfl, rfl, hout, hrow, hb⟩ := hrel
  have zw := hb.size
  have bw : Below w.heap.size w wr := bb.trans (hb.mono (by omega))
  have kz := (hb.block _ (by omega)).trans (unhide KZ)
  obtain ⟨z0, z1⟩ := cells2 kz
  have hgl := goneK_le (goneB n t false u) rs k
  have hkl := keepK_le (goneB n t false u) rs k
  obtain ⟨va, vc, rfl⟩ := hrow.slice
  by_cases hlt : k < m
  ·obtain ⟨b, off, na, nc, ta, tc, xa, xc, ia, ic, rfl, hbl, hc, hu⟩ := (unhide HE).recs.here (k := k) (by rw [unhide HN]; exact hlt)
   have hrk := unhide HOK k hlt
   generalize hrkk : rs.getD k recZ = rk at *
   have HRK := hide hrkk
   have HU0 := hide hu
   have HU := hide (hu.below bw)
   have HX := hide ((unhide HXX).below bw)
   have HROW := hide hrow
   obtain ⟨c0, c1, c2, c3, c4, c5, c6⟩ := range7 (range_below hc hbl bw)
   have kq := (hb.block _ (by omega)).trans (unhide KQ)
   have KUr := hide ((hb.block _ (by omega)).trans (unhide KU))
   have bx := below_alloc (w := wr) (.cells #[.slice na rk.name.length nc, .int .i64 rk.type, .int .i64 rk.ttl, .int .i64 rk.addr, .slice ta rk.to.length tc, .slice xa rk.text.length xc, .slice ia rk.nums.length ic] 59)
   have KX := hide (heap_alloc_new wr (.cells #[.slice na rk.name.length nc, .int .i64 rk.type, .int .i64 rk.ttl, .int .i64 rk.addr, .slice ta rk.to.length tc, .slice xa rk.text.length xc, .slice ia rk.nums.length ic] 59))
   have q0 := block_one (block_kept bx kq)
   have CL := hide (l2cmp_has (((unhide HU).below bx).name) (((unhide HQ).below bw).below bx) (by have := (rrOk_parts hrk).1; have := (nameOk_parts this).1; omega) hn)
   have hkm : (k : Int) < m := by omega
   clear hc hu hrkk kz kq
   by_cases hz : cmpN rk.name n = 0
   ·have hzb : (cmpN rk.name n == 0) = true := by rw [hz]; rfl
    clear hz
    by_cases h255 : t = 255
    ·subst h255
     have e255 : ((255 : Int) == 255) = true := rfl
     by_cases h6 : rk.type = 6
     ·have h6b : (rk.type != 6) = false := by rw [h6]; rfl
      clear h6
      go_wp2_with fail
      refine (unhide CL).mono ?_
      rintro e w2 ⟨rfl, b2⟩
      clear c0 c1 c2 c3 c4 c5 c6 z0 z1 q0
      obtain ⟨x0, x1, x2, x3, x4, x5, x6⟩ := cells7 (block_kept b2 (unhide KX))
      have q3 := b2
      have hp : goneB n 255 false u rk = false := by unfold goneB; rw [hzb, h6b]; rfl
      have hk1 : keepK (goneB n 255 false u) rs (k + 1) = keepK (goneB n 255 false u) rs k ++ [rk] := by rw [keepK, unhide HRK, hp]; rfl
      have hg1 : goneK (goneB n 255 false u) rs (k + 1) = goneK (goneB n 255 false u) rs k := by rw [goneK, unhide HRK, hp]; rfl
      have HK1 := hide hk1
      have HG1 := hide hg1
      have qq := below_next bx q3
      have kout2 := block_kept qq hout
      have row2 := (unhide HROW).later qq
      obtain ⟨xs, hxo, hxs⟩ := row2
      have hxl : xs.length = (keepK (goneB n 255 false u) rs k).length * 7 := hxo.1
      have by2 := below_alloc (w := w2) (.cells #[.slice na rk.name.length nc, .int .i64 rk.type, .int .i64 rk.ttl, .int .i64 rk.addr, .slice ta rk.to.length tc, .slice xa rk.text.length xc, .slice ia rk.nums.length ic] 59)
      have ky2 := heap_alloc_new w2 (.cells #[.slice na rk.name.length nc, .int .i64 rk.type, .int .i64 rk.ttl, .int .i64 rk.addr, .slice ta rk.to.length tc, .slice xa rk.text.length xc, .slice ia rk.nums.length ic] 59)
      obtain ⟨o0, o1⟩ := cells2 kout2
      have kout3 := block_kept by2 kout2
      have HXO := hide hxo
      have HXS := hide hxs
      have KY := hide ky2
      have BY := hide by2
      have KO3 := hide kout3
      have zq := qq.size
      have hbq : Below (w.heap.size + 4) W w2 := hb.trans (qq.mono (by omega))
      have HBQ := hide hbq
      clear hp hk1 hg1 hxo hxs ky2 by2 kout3 kout2 hbq
      go_wp2_with (at_builtin; refine append_rec rfl _ _ 31 59 rfl Tryz.underlying31 _ info_rr rfl (w.heap.size + 5) _ (keepK (goneB n 255 false u) rs k).length xs rfl (ownsRow_later (unhide HXO) (unhide BY)) w2.heap.size (cellsR (.slice na rk.name.length nc) (.slice ta rk.to.length tc) (.slice xa rk.text.length xc) (.slice ia rk.nums.length ic) rk) rfl (unhide KY) rfl (by simp [cellsR, Value.oneCell']) (by omega) (by have := (unhide BY).size; omega) ?_)
      intro v5 w5 o5 g5
      have hx5 := ownsRow_later (unhide HXO) (unhide BY)
      have kout5 := block_grown g5 (unhide KO3) (row_type hx5 (unhide KO3) (by decide))
      have R5 := RowS.snoc hxl (unhide HXS) o5 (unhide HU0)
      rw [← unhide HK1] at R5
      have g6 := grown_setCell w5 ⟨w.heap.size + 4, 1, none⟩ v5
      have R6 := R5.off g6 (by show w.heap.size + 4 < w.heap.size + 5; omega)
      have hb5 : Below (w.heap.size + 4) W w5 := ((unhide HBQ).trans ((unhide BY).mono (by omega))).grown g5 (by have := (unhide HBQ).size; have := (unhide BY).size; omega) (fun q hq => by have := (World.ownsRow.lt hx5 q hq).1; omega)
      have hb6 : Below (w.heap.size + 4) W (w5.setCell ⟨w.heap.size + 4, 1, none⟩ v5) := hb5.setCell (by show w.heap.size + 4 ≤ w.heap.size + 4; omega) v5
      have kout6 := block_setAt kout5 1 v5
      obtain ⟨va5, vc5, rfl⟩ := R5.slice
      obtain ⟨o0b, o1b⟩ := cells2 kout5
      obtain ⟨f0b, f1b⟩ := frozen2 kout5
      have HR6 := hide R6
      have HB6 := hide hb6
      have KO6 := hide kout6
      clear o5 g5 R5 R6 hb5 hb6 kout5 kout6 g6 hx5 o0 o1 x0 x1 x2 x3 x4 x5 x6
      go_wp2_with fail
      exact ⟨⟨k + 1, _, by omega, by go_num, by rw [unhide HG1], unhide KO6, unhide HR6, unhide HB6⟩, by simp [intOf]; omega⟩
     ·have h6b : (rk.type != 6) = true := by rw [bne_iff_ne]; exact h6
      clear h6
      go_wp2_with fail
      refine (unhide CL).mono ?_
      rintro e w2 ⟨rfl, b2⟩
      clear c0 c1 c2 c3 c4 c5 c6 z0 z1 q0
      obtain ⟨x0, x1, x2, x3, x4, x5, x6⟩ := cells7 (block_kept b2 (unhide KX))
      have q3 := b2
      have hp : goneB n 255 false u rk = true := by unfold goneB; rw [hzb, h6b]; rfl
      have hk1 : keepK (goneB n 255 false u) rs (k + 1) = keepK (goneB n 255 false u) rs k := by rw [keepK, unhide HRK, hp]; rfl
      have hg1 : goneK (goneB n 255 false u) rs (k + 1) = goneK (goneB n 255 false u) rs k + 1 := by rw [goneK, unhide HRK, hp]; rfl
      have HK1 := hide hk1
      have HG1 := hide hg1
      have qq := below_next bx q3
      have KO2 := hide (block_kept qq hout)
      have ROW2 := hide ((unhide HROW).later qq)
      have HBQ := hide (hb.trans (qq.mono (by omega)))
      clear hp hk1 hg1 x0 x2 x3 x4 x5 x6
      go_wp2_with fail
      exact ⟨⟨k + 1, _, by omega, by go_num, by rw [unhide HG1]; go_num, unhide KO2, by rw [unhide HK1]; exact unhide ROW2, unhide HBQ⟩, by simp [intOf]; omega⟩
    ·have e255 : (t == 255) = false := by rw [beq_eq_false_iff_ne]; exact h255
     clear h255
     by_cases hty : rk.type = t
     ·have ety : (rk.type == t) = true := by rw [hty]; simp
      clear hty
      by_cases h6 : rk.type = 6
      ·have h6b : (rk.type != 6) = false := by rw [h6]; rfl
       clear h6
       go_wp2_with fail
       refine (unhide CL).mono ?_
       rintro e w2 ⟨rfl, b2⟩
       clear c0 c1 c2 c3 c4 c5 c6 z0 z1 q0
       obtain ⟨x0, x1, x2, x3, x4, x5, x6⟩ := cells7 (block_kept b2 (unhide KX))
       have q3 := b2
       have hp : goneB n t false u rk = false := by unfold goneB; rw [hzb, e255, ety, h6b]; rfl
       have hk1 : keepK (goneB n t false u) rs (k + 1) = keepK (goneB n t false u) rs k ++ [rk] := by rw [keepK, unhide HRK, hp]; rfl
       have hg1 : goneK (goneB n t false u) rs (k + 1) = goneK (goneB n t false u) rs k := by rw [goneK, unhide HRK, hp]; rfl
       have HK1 := hide hk1
       have HG1 := hide hg1
       have qq := below_next bx q3
       have kout2 := block_kept qq hout
       have row2 := (unhide HROW).later qq
       obtain ⟨xs, hxo, hxs⟩ := row2
       have hxl : xs.length = (keepK (goneB n t false u) rs k).length * 7 := hxo.1
       have by2 := below_alloc (w := w2) (.cells #[.slice na rk.name.length nc, .int .i64 rk.type, .int .i64 rk.ttl, .int .i64 rk.addr, .slice ta rk.to.length tc, .slice xa rk.text.length xc, .slice ia rk.nums.length ic] 59)
       have ky2 := heap_alloc_new w2 (.cells #[.slice na rk.name.length nc, .int .i64 rk.type, .int .i64 rk.ttl, .int .i64 rk.addr, .slice ta rk.to.length tc, .slice xa rk.text.length xc, .slice ia rk.nums.length ic] 59)
       obtain ⟨o0, o1⟩ := cells2 kout2
       have kout3 := block_kept by2 kout2
       have HXO := hide hxo
       have HXS := hide hxs
       have KY := hide ky2
       have BY := hide by2
       have KO3 := hide kout3
       have zq := qq.size
       have hbq : Below (w.heap.size + 4) W w2 := hb.trans (qq.mono (by omega))
       have HBQ := hide hbq
       clear hp hk1 hg1 hxo hxs ky2 by2 kout3 kout2 hbq
       go_wp2_with (at_builtin; refine append_rec rfl _ _ 31 59 rfl Tryz.underlying31 _ info_rr rfl (w.heap.size + 5) _ (keepK (goneB n t false u) rs k).length xs rfl (ownsRow_later (unhide HXO) (unhide BY)) w2.heap.size (cellsR (.slice na rk.name.length nc) (.slice ta rk.to.length tc) (.slice xa rk.text.length xc) (.slice ia rk.nums.length ic) rk) rfl (unhide KY) rfl (by simp [cellsR, Value.oneCell']) (by omega) (by have := (unhide BY).size; omega) ?_)
       intro v5 w5 o5 g5
       have hx5 := ownsRow_later (unhide HXO) (unhide BY)
       have kout5 := block_grown g5 (unhide KO3) (row_type hx5 (unhide KO3) (by decide))
       have R5 := RowS.snoc hxl (unhide HXS) o5 (unhide HU0)
       rw [← unhide HK1] at R5
       have g6 := grown_setCell w5 ⟨w.heap.size + 4, 1, none⟩ v5
       have R6 := R5.off g6 (by show w.heap.size + 4 < w.heap.size + 5; omega)
       have hb5 : Below (w.heap.size + 4) W w5 := ((unhide HBQ).trans ((unhide BY).mono (by omega))).grown g5 (by have := (unhide HBQ).size; have := (unhide BY).size; omega) (fun q hq => by have := (World.ownsRow.lt hx5 q hq).1; omega)
       have hb6 : Below (w.heap.size + 4) W (w5.setCell ⟨w.heap.size + 4, 1, none⟩ v5) := hb5.setCell (by show w.heap.size + 4 ≤ w.heap.size + 4; omega) v5
       have kout6 := block_setAt kout5 1 v5
       obtain ⟨va5, vc5, rfl⟩ := R5.slice
       obtain ⟨o0b, o1b⟩ := cells2 kout5
       obtain ⟨f0b, f1b⟩ := frozen2 kout5
       have HR6 := hide R6
       have HB6 := hide hb6
       have KO6 := hide kout6
       clear o5 g5 R5 R6 hb5 hb6 kout5 kout6 g6 hx5 o0 o1 x0 x1 x2 x3 x4 x5 x6
       go_wp2_with fail
       exact ⟨⟨k + 1, _, by omega, by go_num, by rw [unhide HG1], unhide KO6, unhide HR6, unhide HB6⟩, by simp [intOf]; omega⟩
      ·have h6b : (rk.type != 6) = true := by rw [bne_iff_ne]; exact h6
       clear h6
       go_wp2_with fail
       refine (unhide CL).mono ?_
       rintro e w2 ⟨rfl, b2⟩
       clear c0 c1 c2 c3 c4 c5 c6 z0 z1 q0
       obtain ⟨x0, x1, x2, x3, x4, x5, x6⟩ := cells7 (block_kept b2 (unhide KX))
       have q3 := b2
       have hp : goneB n t false u rk = true := by unfold goneB; rw [hzb, e255, ety, h6b]; rfl
       have hk1 : keepK (goneB n t false u) rs (k + 1) = keepK (goneB n t false u) rs k := by rw [keepK, unhide HRK, hp]; rfl
       have hg1 : goneK (goneB n t false u) rs (k + 1) = goneK (goneB n t false u) rs k + 1 := by rw [goneK, unhide HRK, hp]; rfl
       have HK1 := hide hk1
       have HG1 := hide hg1
       have qq := below_next bx q3
       have KO2 := hide (block_kept qq hout)
       have ROW2 := hide ((unhide HROW).later qq)
       have HBQ := hide (hb.trans (qq.mono (by omega)))
       clear hp hk1 hg1 x0 x2 x3 x4 x5 x6
       go_wp2_with fail
       exact ⟨⟨k + 1, _, by omega, by go_num, by rw [unhide HG1]; go_num, unhide KO2, by rw [unhide HK1]; exact unhide ROW2, unhide HBQ⟩, by simp [intOf]; omega⟩
     ·have ety : (rk.type == t) = false := by rw [beq_eq_false_iff_ne]; exact hty
      clear hty
      go_wp2_with fail
      refine (unhide CL).mono ?_
      rintro e w2 ⟨rfl, b2⟩
      clear c0 c1 c2 c3 c4 c5 c6 z0 z1 q0
      obtain ⟨x0, x1, x2, x3, x4, x5, x6⟩ := cells7 (block_kept b2 (unhide KX))
      have q3 := b2
      have hp : goneB n t false u rk = false := by unfold goneB; rw [hzb, e255, ety]; rfl
      have hk1 : keepK (goneB n t false u) rs (k + 1) = keepK (goneB n t false u) rs k ++ [rk] := by rw [keepK, unhide HRK, hp]; rfl
      have hg1 : goneK (goneB n t false u) rs (k + 1) = goneK (goneB n t false u) rs k := by rw [goneK, unhide HRK, hp]; rfl
      have HK1 := hide hk1
      have HG1 := hide hg1
      have qq := below_next bx q3
      have kout2 := block_kept qq hout
      have row2 := (unhide HROW).later qq
      obtain ⟨xs, hxo, hxs⟩ := row2
      have hxl : xs.length = (keepK (goneB n t false u) rs k).length * 7 := hxo.1
      have by2 := below_alloc (w := w2) (.cells #[.slice na rk.name.length nc, .int .i64 rk.type, .int .i64 rk.ttl, .int .i64 rk.addr, .slice ta rk.to.length tc, .slice xa rk.text.length xc, .slice ia rk.nums.length ic] 59)
      have ky2 := heap_alloc_new w2 (.cells #[.slice na rk.name.length nc, .int .i64 rk.type, .int .i64 rk.ttl, .int .i64 rk.addr, .slice ta rk.to.length tc, .slice xa rk.text.length xc, .slice ia rk.nums.length ic] 59)
      obtain ⟨o0, o1⟩ := cells2 kout2
      have kout3 := block_kept by2 kout2
      have HXO := hide hxo
      have HXS := hide hxs
      have KY := hide ky2
      have BY := hide by2
      have KO3 := hide kout3
      have zq := qq.size
      have hbq : Below (w.heap.size + 4) W w2 := hb.trans (qq.mono (by omega))
      have HBQ := hide hbq
      clear hp hk1 hg1 hxo hxs ky2 by2 kout3 kout2 hbq
      go_wp2_with (at_builtin; refine append_rec rfl _ _ 31 59 rfl Tryz.underlying31 _ info_rr rfl (w.heap.size + 5) _ (keepK (goneB n t false u) rs k).length xs rfl (ownsRow_later (unhide HXO) (unhide BY)) w2.heap.size (cellsR (.slice na rk.name.length nc) (.slice ta rk.to.length tc) (.slice xa rk.text.length xc) (.slice ia rk.nums.length ic) rk) rfl (unhide KY) rfl (by simp [cellsR, Value.oneCell']) (by omega) (by have := (unhide BY).size; omega) ?_)
      intro v5 w5 o5 g5
      have hx5 := ownsRow_later (unhide HXO) (unhide BY)
      have kout5 := block_grown g5 (unhide KO3) (row_type hx5 (unhide KO3) (by decide))
      have R5 := RowS.snoc hxl (unhide HXS) o5 (unhide HU0)
      rw [← unhide HK1] at R5
      have g6 := grown_setCell w5 ⟨w.heap.size + 4, 1, none⟩ v5
      have R6 := R5.off g6 (by show w.heap.size + 4 < w.heap.size + 5; omega)
      have hb5 : Below (w.heap.size + 4) W w5 := ((unhide HBQ).trans ((unhide BY).mono (by omega))).grown g5 (by have := (unhide HBQ).size; have := (unhide BY).size; omega) (fun q hq => by have := (World.ownsRow.lt hx5 q hq).1; omega)
      have hb6 : Below (w.heap.size + 4) W (w5.setCell ⟨w.heap.size + 4, 1, none⟩ v5) := hb5.setCell (by show w.heap.size + 4 ≤ w.heap.size + 4; omega) v5
      have kout6 := block_setAt kout5 1 v5
      obtain ⟨va5, vc5, rfl⟩ := R5.slice
      obtain ⟨o0b, o1b⟩ := cells2 kout5
      obtain ⟨f0b, f1b⟩ := frozen2 kout5
      have HR6 := hide R6
      have HB6 := hide hb6
      have KO6 := hide kout6
      clear o5 g5 R5 R6 hb5 hb6 kout5 kout6 g6 hx5 o0 o1 x0 x1 x2 x3 x4 x5 x6
      go_wp2_with fail
      exact ⟨⟨k + 1, _, by omega, by go_num, by rw [unhide HG1], unhide KO6, unhide HR6, unhide HB6⟩, by simp [intOf]; omega⟩
   ·have hzb : (cmpN rk.name n == 0) = false := by rw [beq_eq_false_iff_ne]; exact hz
    clear hz
    go_wp2_with fail
    refine (unhide CL).mono ?_
    rintro e w2 ⟨rfl, b2⟩
    clear c0 c1 c2 c3 c4 c5 c6 z0 z1 q0
    obtain ⟨x0, x1, x2, x3, x4, x5, x6⟩ := cells7 (block_kept b2 (unhide KX))
    have q3 := b2
    have hp : goneB n t false u rk = false := by unfold goneB; rw [hzb]; rfl
    have hk1 : keepK (goneB n t false u) rs (k + 1) = keepK (goneB n t false u) rs k ++ [rk] := by rw [keepK, unhide HRK, hp]; rfl
    have hg1 : goneK (goneB n t false u) rs (k + 1) = goneK (goneB n t false u) rs k := by rw [goneK, unhide HRK, hp]; rfl
    have HK1 := hide hk1
    have HG1 := hide hg1
    have qq := below_next bx q3
    have kout2 := block_kept qq hout
    have row2 := (unhide HROW).later qq
    obtain ⟨xs, hxo, hxs⟩ := row2
    have hxl : xs.length = (keepK (goneB n t false u) rs k).length * 7 := hxo.1
    have by2 := below_alloc (w := w2) (.cells #[.slice na rk.name.length nc, .int .i64 rk.type, .int .i64 rk.ttl, .int .i64 rk.addr, .slice ta rk.to.length tc, .slice xa rk.text.length xc, .slice ia rk.nums.length ic] 59)
    have ky2 := heap_alloc_new w2 (.cells #[.slice na rk.name.length nc, .int .i64 rk.type, .int .i64 rk.ttl, .int .i64 rk.addr, .slice ta rk.to.length tc, .slice xa rk.text.length xc, .slice ia rk.nums.length ic] 59)
    obtain ⟨o0, o1⟩ := cells2 kout2
    have kout3 := block_kept by2 kout2
    have HXO := hide hxo
    have HXS := hide hxs
    have KY := hide ky2
    have BY := hide by2
    have KO3 := hide kout3
    have zq := qq.size
    have hbq : Below (w.heap.size + 4) W w2 := hb.trans (qq.mono (by omega))
    have HBQ := hide hbq
    clear hp hk1 hg1 hxo hxs ky2 by2 kout3 kout2 hbq
    go_wp2_with (at_builtin; refine append_rec rfl _ _ 31 59 rfl Tryz.underlying31 _ info_rr rfl (w.heap.size + 5) _ (keepK (goneB n t false u) rs k).length xs rfl (ownsRow_later (unhide HXO) (unhide BY)) w2.heap.size (cellsR (.slice na rk.name.length nc) (.slice ta rk.to.length tc) (.slice xa rk.text.length xc) (.slice ia rk.nums.length ic) rk) rfl (unhide KY) rfl (by simp [cellsR, Value.oneCell']) (by omega) (by have := (unhide BY).size; omega) ?_)
    intro v5 w5 o5 g5
    have hx5 := ownsRow_later (unhide HXO) (unhide BY)
    have kout5 := block_grown g5 (unhide KO3) (row_type hx5 (unhide KO3) (by decide))
    have R5 := RowS.snoc hxl (unhide HXS) o5 (unhide HU0)
    rw [← unhide HK1] at R5
    have g6 := grown_setCell w5 ⟨w.heap.size + 4, 1, none⟩ v5
    have R6 := R5.off g6 (by show w.heap.size + 4 < w.heap.size + 5; omega)
    have hb5 : Below (w.heap.size + 4) W w5 := ((unhide HBQ).trans ((unhide BY).mono (by omega))).grown g5 (by have := (unhide HBQ).size; have := (unhide BY).size; omega) (fun q hq => by have := (World.ownsRow.lt hx5 q hq).1; omega)
    have hb6 : Below (w.heap.size + 4) W (w5.setCell ⟨w.heap.size + 4, 1, none⟩ v5) := hb5.setCell (by show w.heap.size + 4 ≤ w.heap.size + 4; omega) v5
    have kout6 := block_setAt kout5 1 v5
    obtain ⟨va5, vc5, rfl⟩ := R5.slice
    obtain ⟨o0b, o1b⟩ := cells2 kout5
    obtain ⟨f0b, f1b⟩ := frozen2 kout5
    have HR6 := hide R6
    have HB6 := hide hb6
    have KO6 := hide kout6
    clear o5 g5 R5 R6 hb5 hb6 kout5 kout6 g6 hx5 o0 o1 x0 x1 x2 x3 x4 x5 x6
    go_wp2_with fail
    exact ⟨⟨k + 1, _, by omega, by go_num, by rw [unhide HG1], unhide KO6, unhide HR6, unhide HB6⟩, by simp [intOf]; omega⟩
  ·obtain rfl : k = m := by omega
   have kr := (hb.block _ (by omega)).trans (unhide KR)
   obtain ⟨o0, o1⟩ := cells2 hout
   obtain ⟨r0, r1⟩ := cells2 kr
   obtain ⟨f0, f1⟩ := frozen2 kr
   have KRR := hide kr
   have HROW := hide hrow
   have BW := hide bw
   have hkm : ¬ (k : Int) < k := by omega
   clear kr hrow bw hout kz
   generalize hkl' : keepK (goneB n t false u) rs k = kp at *
   go_wp2_with fail
   clear o0 o1 r0 r1 f0 f1 z0 z1
   have kf : ((wr.setCell ⟨w.heap.size + 3, 0, none⟩ (.slice oa o.length oc)).setCell ⟨w.heap.size + 3, 1, none⟩ (.slice va kp.length vc)).heap[w.heap.size + 3]? = some (.cells #[.slice oa o.length oc, .slice va kp.length vc] 33) := block_setAt (block_setAt (unhide KRR) 0 _) 1 _
   have R6 := ((unhide HROW).off (grown_setCell wr ⟨w.heap.size + 3, 0, none⟩ (.slice oa o.length oc)) (by show w.heap.size + 3 < w.heap.size + 5; omega)).off (grown_setCell _ ⟨w.heap.size + 3, 1, none⟩ (.slice va kp.length vc)) (by show w.heap.size + 3 < w.heap.size + 5; omega)
   have b6 : Below w.heap.size w ((wr.setCell ⟨w.heap.size + 3, 0, none⟩ (.slice oa o.length oc)).setCell ⟨w.heap.size + 3, 1, none⟩ (.slice va kp.length vc)) := ((unhide BW).setCell (by show w.heap.size ≤ w.heap.size + 3; omega) _).setCell (by show w.heap.size ≤ w.heap.size + 3; omega) _
   refine bodyPost_ret (results_cell_tmp_row rfl _ _ (w.heap.size + 3) 33 #[.slice oa o.length oc, .slice va kp.length vc] (0, 0) _ rfl kf Tryz.underlying33 rfl (by kernel_rfl)) rfl ?_
   exact ⟨_, rfl, ⟨(unhide HE).name.below b6, R6.has b6⟩, b6⟩
end Go.Proofs.YtfgcmjpkgdjcfaaGreat

namespace Go.Proofs.YtfgcmjpkgdjcfaaGreat
open Go.RowKit
set_option linter.unusedVariables false

theorem info_sl2 : (Tryz.prog.info? 56).map (fun i => (i.zero, i.size, i.bytes)) = some (some (.slice none 0 0), 1, 24) := by kernel_rfl

set_option maxHeartbeats 2000000 in
set_option maxRecDepth 100000 in
theorem l2own_short {v : Value} {n : List (List Int)} {w : World} (h : HasL w v n) (hs : n.length ≤ 7) (hs2 : ∀ k, k < n.length → (n.getD k []).length ≤ 16) :
  Calls Tryz.prog 61 #[.agg #[v]] w fun e w' => ∃ v', e = .returned (.agg #[v']) ∧ OwnL w.heap.size 56 5 w' v' n ∧ Below w.heap.size w w' := by
 obtain ⟨a, cap, rfl, hcl, hcm⟩ := h.form
 unfold maxLen at hcm
 obtain ⟨hsz, h1, h2⟩ := box3 w (.cells #[.slice a n.length cap] 30) #[.slice none 0 0] #[.slice none 0 0] 30 30
 have bb : Below w.heap.size w (((w.alloc (.cells #[.slice a n.length cap] 30)).alloc (.cells #[.slice none 0 0] 30)).alloc (.cells #[.slice none 0 0] 30)) :=
  ((below_alloc _).alloc (below_alloc _).size _).alloc ((below_alloc _).alloc (below_alloc _).size _).size _
 have hbx : (((w.alloc (.cells #[.slice a n.length cap] 30)).alloc (.cells #[.slice none 0 0] 30)).alloc (.cells #[.slice none 0 0] 30)).heap[w.heap.size]? = some (.cells #[.slice a n.length cap] 30) :=
  block_kept (below_alloc _) (block_kept (below_alloc _) (heap_alloc_new w _))
 have H := hide h
 clear h
 have HS2 := hide hs2
 clear hs2
 generalize hn : n.length = m at *
 have HN := hide hn
 clear hn
 go_enter Tryz.func61, Tryz.ntmps61
 go_wp2
 generalize ((w.alloc (.cells #[.slice a m cap] 30)).alloc (.cells #[.slice none 0 0] 30)).alloc (.cells #[.slice none 0 0] 30) = W at *
 go_loopw [4] (fun i wr => ∃ (k : Nat) (o : Value), k ≤ m ∧ i = .int .i64 k ∧ wr.heap[w.heap.size]? = some (.cells #[.slice a m cap] 30) ∧ wr.heap[w.heap.size + 1]? = some (.cells #[.slice none 0 0] 30) ∧ wr.heap[w.heap.size + 1 + 1]? = some (.cells #[o] 30) ∧ OwnL (w.heap.size + 3) 56 5 wr o (n.take k) ∧ Below w.heap.size w wr) (fun i _ => m - (intOf i).toNat)
 case atStart => exact ⟨0, .slice none 0 0, Nat.zero_le _, rfl, hbx, h1, h2, ⟨[], by simpa using World.ownsRow_nil _ _ _ _, by simp, by simp⟩, bb⟩
 case round =>
  obtain ⟨k, o, hk, rfl, hr0, hr1, hr2, ho, hb⟩ := hrel
  have c0 := block_one hr0
  by_cases hlt : k < m
  ·obtain ⟨b, off, u, rfl, hbl, hc, hu⟩ := ((unhide H).below hb).here (k := k) (by rw [unhide HN]; exact hlt)
   have hlk := unhide HS2 k hlt
   have htk := hide (show n.take (k + 1) = n.take k ++ [n.getD k []] by rw [List.take_succ_eq_append_getElem (by rw [unhide HN]; exact hlt)]; simp [show k < n.length by rw [unhide HN]; exact hlt])
   have htl : (n.take k).length = k := by rw [List.length_take, unhide HN]; omega
   generalize n.getD k [] = lab at *
   generalize n.take k = nk at *
   subst htl
   have HU := hide hu
   obtain ⟨ua, uc, rfl, _⟩ := hu.form
   clear hu
   obtain ⟨oa, oc, rfl, _⟩ := ho.hasL.form
   have hod := ho.below (below_drew (w := wr))
   clear ho
   have HO := hide hod
   obtain ⟨vs, hvs, hva, hvd⟩ := hod
   have hvl : vs.length = nk.length := by have := hvs.1; simpa using this
   have kd2 := block_kept (below_drew (w := wr)) hr2
   have kd1 := block_kept (below_drew (w := wr)) hr1
   have bd := below_next hb (below_drew (w := wr))
   have cod := block_one kd2
   have HUd := hide ((unhide HU).below below_drew)
   have HVS := hide hvs
   have HVA := hide hva
   have HVD := hide hvd
   have z3 := block_lt hr2
   have zb : w.heap.size + 3 ≤ wr.drew.heap.size := by show w.heap.size + 3 ≤ wr.heap.size; omega
   clear hva hvd hvs
   have kd0 := block_kept (below_drew (w := wr)) hr0
   have KD0 := hide kd0
   have KD2 := hide kd2
   have KD1 := hide kd1
   have cd0 := block_one kd0
   have cul : wr.drew.cell? ⟨b, off + nk.length, none⟩ = some (.slice ua lab.length uc) := hc
   have ca0 : ∀ o, (wr.alloc o).cell? ⟨w.heap.size, 0, none⟩ = some (.slice (some ⟨b, off, none⟩) m cap) := fun o => block_one (block_kept (below_alloc o) hr0)
   have ca2 : ∀ o, (wr.alloc o).cell? ⟨w.heap.size + 1 + 1, 0, none⟩ = some (.slice oa nk.length oc) := fun o => block_one (block_kept (below_alloc o) hr2)
   have cau : ∀ o, (wr.alloc o).cell? ⟨b, off + nk.length, none⟩ = some (.slice ua lab.length uc) := fun o => ((below_alloc o).cell (p := ⟨b, off + nk.length, none⟩) hbl).trans hc
   have HUA := hide (show ∀ o, Has (wr.drew.alloc o) (.slice ua lab.length uc) lab from fun o => (unhide HUd).below (below_alloc o))
   clear kd2 kd1 kd0
   go_wp2_with fail
   go_region_law (first
    | (refine step_append_bytes rfl (.tmp 14) (.tmp 19) 56 5 rfl Tryz.underlying56 info_u8 wr.drew.heap.size _ _ [] lab (by simp [Act.eval]) (by simp [Act.eval]) (own_lit wr.drew wr.drew.heap.size 5 [] (Nat.le_refl _) (by simp)) (unhide HUA _).reads (by simp only [List.length_nil]; omega) (below_alloc _).size ?_; intro u1 w1 ou g1; have b1 := lit_grown (w := wr.drew) g1; obtain ⟨u1a, u1c, rfl, _⟩ := ou.lies; have OU := hide ou; have B1 := hide b1; have co1 := block_one (block_kept b1 (unhide KD2)); have ca1 : ∀ o, (w1.alloc o).cell? ⟨w.heap.size + 1 + 1, 0, none⟩ = some (.slice oa nk.length oc) := (fun o => block_one (block_kept (below_alloc o) (block_kept b1 (unhide KD2)))); clear ou b1 g1)
    | (refine step_append_row rfl (.tmp 13) (.tmp 21) 22 56 rfl Tryz.underlying22 info_sl2 (w.heap.size + 3) (.slice oa nk.length oc) _ vs [.slice u1a lab.length u1c] (by simp [Act.eval]) (by simp [Act.eval]) (by rw [hvl]; exact World.ownsRow.alloc (ownsRow_kept' (unhide HVS) (unhide B1)) _) (one_more w1 56 _) (by intro y hy; simp at hy; subst hy; rfl) (by rw [hvl]; simp; omega) (by have := (unhide B1).size; simp; omega) ?_; intro v2 w2 o2 g2; obtain ⟨p2, k2, y2⟩ := snoc_step g2 o2 rfl (unhide HVS) (unhide HVA) (unhide HVD) ((unhide B1).alloc (unhide B1).size _) ((unhide OU).alloc _) zb (by decide) (block_kept (below_alloc _) (block_kept (unhide B1) (unhide KD2))) (by decide); obtain ⟨v2a, v2c, rfl, _⟩ := p2.hasL.form; have co2 := block_one k2; have fo2 := block_frozen k2 0))
   all_goals
    go_wp2_with fail
    have k1 := (y2.block (w.heap.size + 1) (by omega)).trans (unhide KD1)
    have k0 := (y2.block w.heap.size (by omega)).trans (unhide KD0)
    refine ⟨⟨nk.length + 1, _, by omega, by go_num, block_other k0 (by omega) 0 _, block_other k1 (by omega) 0 _, block_set k2 _, ?_, (bd.trans (y2.mono (by omega))).setCell (by show w.heap.size ≤ w.heap.size + 1 + 1; omega) _⟩, by simp [intOf]; omega⟩
    rw [unhide htk]
    simp only [List.length_append, List.length_cons, List.length_nil] at p2
    exact p2.kept (grown_setCell _ _ _) (by show w.heap.size + 1 + 1 < _; omega)
  ·obtain rfl : k = m := by omega
   obtain ⟨oa, oc, rfl, _⟩ := ho.hasL.form
   have htk : n.take k = n := List.take_of_length_le (by rw [unhide HN]; omega)
   rw [htk] at ho
   have HLK := hide (show (n.take k).length = n.length by rw [htk])
   rw [unhide HLK] at hr2
   have HO := hide ho
   have c2 := block_one hr2
   have c1 := block_one hr1
   have f1 := block_frozen hr1 0
   have M1 := hide (block_set hr1 (.slice oa n.length oc))
   clear ho htk hr1 hr2 HLK
   go_wp2
   refine bodyPost_ret (results_cell_row rfl _ _ (w.heap.size + 1) 30 #[.slice oa n.length oc] (0, 0) _ rfl (unhide M1) Tryz.underlying30 rfl (by kernel_rfl)) rfl ?_
   exact ⟨_, rfl, ((unhide HO).kept (grown_setCell _ _ _) (by show w.heap.size + 1 < _; omega)).mono (by omega), hb.setCell (by show w.heap.size ≤ w.heap.size + 1; omega) _⟩
end Go.Proofs.YtfgcmjpkgdjcfaaGreat

namespace Go.Proofs.YtfgcmjpkgdjcfaaGreat
open Go.RowKit

/-- A drawn name is short. -/
def DrawnN (n : List (List Int)) : Prop := n.length ≤ 7 ∧ ∀ k, k < n.length → (n.getD k []).length ≤ 16
end Go.Proofs.YtfgcmjpkgdjcfaaGreat
