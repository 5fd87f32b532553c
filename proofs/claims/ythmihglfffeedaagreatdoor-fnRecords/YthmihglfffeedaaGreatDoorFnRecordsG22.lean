/-
  Contracts of the specification's l3num and l3cmp. Contract of the specification's RrSame. A region that draws its order, one way through it: what only looks is taken in the order of its number, whether its guard wants it or not. A region that draws its order, taken in the order of its numbers: that this may be is asked once a region. What only hands flags on, or is not wanted, is done in one step.
-/
import Derived.Test.YthmihglfffeedaaGreatDoorFnRecordsG21
import Derived.Test.YthmihglfffeedaaGreatDoorFnRecordsG18
import Derived.Test.YthmihglfffeedaaGreatDoorFnRecordsG17
import Derived.Test.YthmihglfffeedaaGreatDoorFnRecordsG03
import Derived.Deep.RegionHeld3
import Derived.Deep.RegionWith
import Derived.Test.YthmihglfffeedaaGreatDoorFnRecordsG00
namespace Go.Proofs.YthmihglfffeedaaGreatDoor
open Go.RowKit
set_option linter.unusedVariables false
set_option maxHeartbeats 1000000
set_option maxRecDepth 100000

theorem l3num_any (x y : Int) (w : World) : Calls Tryz.prog 77 #[.int .i64 x, .int .i64 y] w fun e w' => e = .returned (.int .i64 (byLength x y)) ∧ w = w' := by
 unfold byLength
 by_cases h1 : x < y
 ·rw [if_pos h1]
  go_enter Tryz.func77, Tryz.ntmps77
  go_wp2
  go_ret
  exact ⟨rfl, rfl⟩
 ·rw [if_neg h1]
  by_cases h2 : y < x
  ·rw [if_pos h2]
   go_enter Tryz.func77, Tryz.ntmps77
   go_wp2
   go_ret
   exact ⟨rfl, rfl⟩
  ·rw [if_neg h2]
   go_enter Tryz.func77, Tryz.ntmps77
   go_wp2
   go_ret
   exact ⟨rfl, rfl⟩

theorem l3cmp_has {vn vt vx vi un ut ux ui : Value} {a b : Rec} {w : World} (h : HasR w vn vt vx vi a) (h' : HasR w un ut ux ui b) (ha : rrOk a = true) (hb : rrOk b = true) :
  Calls Tryz.prog 59 #[.agg #[vn, .int .i64 a.type, .int .i64 a.ttl, .int .i64 a.addr, vt, vx, vi], .agg #[un, .int .i64 b.type, .int .i64 b.ttl, .int .i64 b.addr, ut, ux, ui]] w fun e w' => e = .returned (.int .i64 (cmpR a b)) ∧ Below w.heap.size w w' := by
 obtain ⟨na, nc, rfl, _⟩ := h.name.form
 obtain ⟨ta, tc, rfl, _⟩ := h.to.form
 obtain ⟨xa, xc, rfl, _⟩ := h.text.form
 obtain ⟨ia, ic, rfl, _⟩ := h.nums.form
 obtain ⟨na', nc', rfl, _⟩ := h'.name.form
 obtain ⟨ta', tc', rfl, _⟩ := h'.to.form
 obtain ⟨xa', xc', rfl, _⟩ := h'.text.form
 obtain ⟨ia', ic', rfl, _⟩ := h'.nums.form
 have b0 := below2 w (.cells #[.slice na a.name.length nc, .int .i64 a.type, .int .i64 a.ttl, .int .i64 a.addr, .slice ta a.to.length tc, .slice xa a.text.length xc, .slice ia a.nums.length ic] 28) (.cells #[.slice na' b.name.length nc', .int .i64 b.type, .int .i64 b.ttl, .int .i64 b.addr, .slice ta' b.to.length tc', .slice xa' b.text.length xc', .slice ia' b.nums.length ic'] 28)
 obtain ⟨hsz, k0, x0⟩ := box2 w (.cells #[.slice na a.name.length nc, .int .i64 a.type, .int .i64 a.ttl, .int .i64 a.addr, .slice ta a.to.length tc, .slice xa a.text.length xc, .slice ia a.nums.length ic] 28) #[.slice na' b.name.length nc', .int .i64 b.type, .int .i64 b.ttl, .int .i64 b.addr, .slice ta' b.to.length tc', .slice xa' b.text.length xc', .slice ia' b.nums.length ic'] 28
 have K0 := UC k0
 have X0 := UC x0
 have H0 := UC (h.below b0)
 have J0 := UC (h'.below b0)
 clear h h' k0 x0
 have hna := (nameOk_parts (rrOk_parts ha).1).1
 have hnb := (nameOk_parts (rrOk_parts hb).1).1
 have HC := UC (fun (w : World) (v v' : Value) (h : HasL w v a.name) (h' : HasL w v' b.name) => l2cmp_has h h' (by omega) (by omega))
 have HPa := UC (fun (w : World) (vn vt vx vi : Value) (h : HasR w vn vt vx vi a) => l3put_has h ha)
 have HPb := UC (fun (w : World) (vn vt vx vi : Value) (h : HasR w vn vt vx vi b) => l3put_has h hb)
 have HL := UC (l3num_any a.type b.type)
 have HB := UC (fun (w : World) (v v' : Value) (h : Has w v (dataB a)) (h' : Has w v' (dataB b)) => l2bytes_has h h')
 clear ha hb hna hnb
 unfold cmpR
 generalize dataB a = DA at *
 generalize dataB b = DB at *
 generalize cmpB DA DB = CB at *
 generalize cmpN a.name b.name = CN at *
 generalize byLength a.type b.type = CL at *
 by_cases e1 : CN = 0
 ·subst e1
  rw [if_neg (by simp)]
  by_cases e2 : CL = 0
  ·subst e2
   rw [if_neg (by simp)]
   go_enter Tryz.func59, Tryz.ntmps59
   go_wp2_with fail
   generalize (w.alloc (.cells #[.slice na a.name.length nc, .int .i64 a.type, .int .i64 a.ttl, .int .i64 a.addr, .slice ta a.to.length tc, .slice xa a.text.length xc, .slice ia a.nums.length ic] 28)).alloc (.cells #[.slice na' b.name.length nc', .int .i64 b.type, .int .i64 b.ttl, .int .i64 b.addr, .slice ta' b.to.length tc', .slice xa' b.text.length xc', .slice ia' b.nums.length ic'] 28) = W at *
   refine (UB HC _ _ _ (UB H0).name (UB J0).name).mono ?_
   rintro e w1 ⟨rfl, b1⟩
   have bb1 := UG b0 b1
   have K1 := UC (UE b1 (UB K0))
   have X1 := UC (UE b1 (UB X0))
   have H1 := UC ((UB H0).below b1)
   have J1 := UC ((UB J0).below b1)
   clear K0 X0 H0 J0 b1
   obtain ⟨d0, d1, d2, d3, d4, d5, d6⟩ := UJ (UB K1)
   obtain ⟨f0, f1, f2, f3, f4, f5, f6⟩ := UJ (UB X1)
   go_wp2_with fail
   refine (UB HL _).mono ?_
   rintro e w2 ⟨rfl, rfl⟩
   clear d0 d1 d2 d3 d4 d5 d6 f0 f1 f2 f3 f4 f5 f6
   have bd := UX (w := w1)
   have bb2 := UG bb1 bd
   have K2 := UC (UE bd (UB K1))
   have X2 := UC (UE bd (UB X1))
   have H2 := UC ((UB H1).below bd)
   have J2 := UC ((UB J1).below bd)
   clear K1 X1 H1 J1 bd
   obtain ⟨d0, d1, d2, d3, d4, d5, d6⟩ := UJ (UB K2)
   obtain ⟨f0, f1, f2, f3, f4, f5, f6⟩ := UJ (UB X2)
   go_wp2_with fail
   clear d0 d1 d2 d3 d4 d5 d6 f0 f1 f2 f3 f4 f5 f6
   go_region_held3 (fun w' => (w'.cell? ⟨w.heap.size, 0, none⟩ = some (.slice na a.name.length nc) ∧ w'.cell? ⟨w.heap.size, 1, none⟩ = some (.int .i64 a.type) ∧ w'.cell? ⟨w.heap.size, 2, none⟩ = some (.int .i64 a.ttl) ∧ w'.cell? ⟨w.heap.size, 3, none⟩ = some (.int .i64 a.addr) ∧ w'.cell? ⟨w.heap.size, 4, none⟩ = some (.slice ta a.to.length tc) ∧ w'.cell? ⟨w.heap.size, 5, none⟩ = some (.slice xa a.text.length xc) ∧ w'.cell? ⟨w.heap.size, 6, none⟩ = some (.slice ia a.nums.length ic)) ∧ (w'.cell? ⟨w.heap.size + 1, 0, none⟩ = some (.slice na' b.name.length nc') ∧ w'.cell? ⟨w.heap.size + 1, 1, none⟩ = some (.int .i64 b.type) ∧ w'.cell? ⟨w.heap.size + 1, 2, none⟩ = some (.int .i64 b.ttl) ∧ w'.cell? ⟨w.heap.size + 1, 3, none⟩ = some (.int .i64 b.addr) ∧ w'.cell? ⟨w.heap.size + 1, 4, none⟩ = some (.slice ta' b.to.length tc') ∧ w'.cell? ⟨w.heap.size + 1, 5, none⟩ = some (.slice xa' b.text.length xc') ∧ w'.cell? ⟨w.heap.size + 1, 6, none⟩ = some (.slice ia' b.nums.length ic')))
    (first | exact ⟨UJ (UB K2), UJ (UB X2)⟩ | exact ⟨UJ (UE b3 (UB K2)), UJ (UE b3 (UB X2))⟩ | exact ⟨UJ (UE q4 (UB K2)), UJ (UE q4 (UB X2))⟩ | exact ⟨UJ (UE q5 (UB K2)), UJ (UE q5 (UB X2))⟩)
    (first
    | (go_at_call_of 61 (Value.slice na a.name.length nc); refine (UB HPa _ _ _ _ _ (UB H2)).mono ?_; rintro e w3 ⟨y3, rfl, o3, b3⟩)
    | (go_at_call_of 61 (Value.slice na' b.name.length nc'); refine (UB HPb _ _ _ _ _ ((UB J2).below b3)).mono ?_; rintro e w4 ⟨y4, rfl, o4, b4⟩; have q4 := UG b3 b4)
    | (go_at_call 78; refine (UB HB _ _ _ (o3.below b4).has o4.has).mono ?_; rintro e w5 ⟨rfl, rfl⟩; have q5 := q4))
   go_wp2_with fail
   go_ret
   exact ⟨rfl, UG bb2 q5⟩
  ·rw [if_pos e2]
   have f2 : (CL == 0) = false := by rw [beq_eq_false_iff_ne]; exact e2
   go_enter Tryz.func59, Tryz.ntmps59
   go_wp2_with fail
   generalize (w.alloc (.cells #[.slice na a.name.length nc, .int .i64 a.type, .int .i64 a.ttl, .int .i64 a.addr, .slice ta a.to.length tc, .slice xa a.text.length xc, .slice ia a.nums.length ic] 28)).alloc (.cells #[.slice na' b.name.length nc', .int .i64 b.type, .int .i64 b.ttl, .int .i64 b.addr, .slice ta' b.to.length tc', .slice xa' b.text.length xc', .slice ia' b.nums.length ic'] 28) = W at *
   refine (UB HC _ _ _ (UB H0).name (UB J0).name).mono ?_
   rintro e w1 ⟨rfl, b1⟩
   have bb1 := UG b0 b1
   have K1 := UC (UE b1 (UB K0))
   have X1 := UC (UE b1 (UB X0))
   have H1 := UC ((UB H0).below b1)
   have J1 := UC ((UB J0).below b1)
   clear K0 X0 H0 J0 b1
   obtain ⟨d0, d1, d2, d3, d4, d5, d6⟩ := UJ (UB K1)
   obtain ⟨f0, f1, f9, f3, f4, f5, f6⟩ := UJ (UB X1)
   go_wp2_with fail
   refine (UB HL _).mono ?_
   rintro e w2 ⟨rfl, rfl⟩
   go_wp2_with fail
   go_ret
   exact ⟨rfl, bb1⟩
 ·rw [if_pos e1]
  have f1 : (CN == 0) = false := by rw [beq_eq_false_iff_ne]; exact e1
  go_enter Tryz.func59, Tryz.ntmps59
  go_wp2_with fail
  generalize (w.alloc (.cells #[.slice na a.name.length nc, .int .i64 a.type, .int .i64 a.ttl, .int .i64 a.addr, .slice ta a.to.length tc, .slice xa a.text.length xc, .slice ia a.nums.length ic] 28)).alloc (.cells #[.slice na' b.name.length nc', .int .i64 b.type, .int .i64 b.ttl, .int .i64 b.addr, .slice ta' b.to.length tc', .slice xa' b.text.length xc', .slice ia' b.nums.length ic'] 28) = W at *
  refine (UB HC _ _ _ (UB H0).name (UB J0).name).mono ?_
  rintro e w1 ⟨rfl, b1⟩
  go_wp2_with fail
  go_ret
  exact ⟨rfl, UG b0 b1⟩
set_option maxHeartbeats 1000000 in
set_option maxRecDepth 100000 in
theorem specRrSame_has {vn vt vx vi un ut ux ui : Value} {a b : Rec} {w : World} (h : HasR w vn vt vx vi a) (h' : HasR w un ut ux ui b) :
  Calls Tryz.prog 36 #[.agg #[vn, .int .i64 a.type, .int .i64 a.ttl, .int .i64 a.addr, vt, vx, vi], .agg #[un, .int .i64 b.type, .int .i64 b.ttl, .int .i64 b.addr, ut, ux, ui]] w fun e w' => e = .returned (.bool (rrSame a b)) ∧ Below w.heap.size w w' := by
 obtain ⟨na, nc, rfl, _⟩ := h.name.form
 obtain ⟨ta, tc, rfl, _⟩ := h.to.form
 obtain ⟨xa, xc, rfl, _⟩ := h.text.form
 obtain ⟨ia, ic, rfl, _⟩ := h.nums.form
 obtain ⟨na', nc', rfl, _⟩ := h'.name.form
 obtain ⟨ta', tc', rfl, _⟩ := h'.to.form
 obtain ⟨xa', xc', rfl, _⟩ := h'.text.form
 obtain ⟨ia', ic', rfl, _⟩ := h'.nums.form
 have b0 := below2 w (.cells #[.slice na a.name.length nc, .int .i64 a.type, .int .i64 a.ttl, .int .i64 a.addr, .slice ta a.to.length tc, .slice xa a.text.length xc, .slice ia a.nums.length ic] 28) (.cells #[.slice na' b.name.length nc', .int .i64 b.type, .int .i64 b.ttl, .int .i64 b.addr, .slice ta' b.to.length tc', .slice xa' b.text.length xc', .slice ia' b.nums.length ic'] 28)
 obtain ⟨hsz, k0, x0⟩ := box2 w (.cells #[.slice na a.name.length nc, .int .i64 a.type, .int .i64 a.ttl, .int .i64 a.addr, .slice ta a.to.length tc, .slice xa a.text.length xc, .slice ia a.nums.length ic] 28) #[.slice na' b.name.length nc', .int .i64 b.type, .int .i64 b.ttl, .int .i64 b.addr, .slice ta' b.to.length tc', .slice xa' b.text.length xc', .slice ia' b.nums.length ic'] 28
 have K0 := UC k0
 have X0 := UC x0
 have H0 := UC (h.below b0)
 have J0 := UC (h'.below b0)
 clear h h' k0 x0
 have HA := UC (fun (w : World) (vn vt vx vi : Value) (h : HasR w vn vt vx vi a) => specRrOk_has h)
 have HB := UC (fun (w : World) (vn vt vx vi : Value) (h : HasR w vn vt vx vi b) => specRrOk_has h)
 have HC := UC (show ∀ (w : World) (vn vt vx vi un ut ux ui : Value), HasR w vn vt vx vi a → HasR w un ut ux ui b → rrOk a = true → rrOk b = true → Calls Tryz.prog 59 #[.agg #[vn, .int .i64 a.type, .int .i64 a.ttl, .int .i64 a.addr, vt, vx, vi], .agg #[un, .int .i64 b.type, .int .i64 b.ttl, .int .i64 b.addr, ut, ux, ui]] w fun e w' => e = .returned (.int .i64 (cmpR a b)) ∧ Below w.heap.size w w' from fun w vn vt vx vi un ut ux ui h h' ha hb => l3cmp_has h h' ha hb)
 unfold rrSame
 generalize cmpR a b = R at *
 cases hA : rrOk a with
 | false =>
  rw [Bool.false_and]
  rw [hA] at HA
  go_enter Tryz.func36, Tryz.ntmps36
  go_wp2_with fail
  generalize (w.alloc (.cells #[.slice na a.name.length nc, .int .i64 a.type, .int .i64 a.ttl, .int .i64 a.addr, .slice ta a.to.length tc, .slice xa a.text.length xc, .slice ia a.nums.length ic] 28)).alloc (.cells #[.slice na' b.name.length nc', .int .i64 b.type, .int .i64 b.ttl, .int .i64 b.addr, .slice ta' b.to.length tc', .slice xa' b.text.length xc', .slice ia' b.nums.length ic'] 28) = W at *
  refine (UB HA _ _ _ _ _ (UB H0)).mono ?_
  rintro e w1 ⟨rfl, b1⟩
  go_wp2_with fail
  go_ret
  exact ⟨rfl, UG b0 b1⟩
 | true =>
  rw [hA] at HA
  have HTA := UC hA
  clear hA
  rw [Bool.true_and]
  cases hB : rrOk b with
  | false =>
   rw [Bool.false_and]
   rw [hB] at HB
   go_enter Tryz.func36, Tryz.ntmps36
   go_wp2_with fail
   generalize (w.alloc (.cells #[.slice na a.name.length nc, .int .i64 a.type, .int .i64 a.ttl, .int .i64 a.addr, .slice ta a.to.length tc, .slice xa a.text.length xc, .slice ia a.nums.length ic] 28)).alloc (.cells #[.slice na' b.name.length nc', .int .i64 b.type, .int .i64 b.ttl, .int .i64 b.addr, .slice ta' b.to.length tc', .slice xa' b.text.length xc', .slice ia' b.nums.length ic'] 28) = W at *
   refine (UB HA _ _ _ _ _ (UB H0)).mono ?_
   rintro e w1 ⟨rfl, b1⟩
   have bb1 := UG b0 b1
   have K1 := UC (UE b1 (UB K0))
   have X1 := UC (UE b1 (UB X0))
   have H1 := UC ((UB H0).below b1)
   have J1 := UC ((UB J0).below b1)
   clear K0 X0 H0 J0 b1
   obtain ⟨d0, d1, d2, d3, d4, d5, d6⟩ := UJ (UB K1)
   obtain ⟨f0, f1, f2, f3, f4, f5, f6⟩ := UJ (UB X1)
   go_wp2_with fail
   refine (UB HB _ _ _ _ _ (UB J1)).mono ?_
   rintro e w2 ⟨rfl, b2⟩
   go_wp2_with fail
   go_ret
   exact ⟨rfl, UG bb1 b2⟩
  | true =>
   rw [Bool.true_and]
   rw [hB] at HB
   have HTB := UC hB
   clear hB
   go_enter Tryz.func36, Tryz.ntmps36
   go_wp2_with fail
   generalize (w.alloc (.cells #[.slice na a.name.length nc, .int .i64 a.type, .int .i64 a.ttl, .int .i64 a.addr, .slice ta a.to.length tc, .slice xa a.text.length xc, .slice ia a.nums.length ic] 28)).alloc (.cells #[.slice na' b.name.length nc', .int .i64 b.type, .int .i64 b.ttl, .int .i64 b.addr, .slice ta' b.to.length tc', .slice xa' b.text.length xc', .slice ia' b.nums.length ic'] 28) = W at *
   refine (UB HA _ _ _ _ _ (UB H0)).mono ?_
   rintro e w1 ⟨rfl, b1⟩
   have bb1 := UG b0 b1
   have K1 := UC (UE b1 (UB K0))
   have X1 := UC (UE b1 (UB X0))
   have H1 := UC ((UB H0).below b1)
   have J1 := UC ((UB J0).below b1)
   clear K0 X0 H0 J0 b1
   obtain ⟨d0, d1, d2, d3, d4, d5, d6⟩ := UJ (UB K1)
   obtain ⟨f0, f1, f2, f3, f4, f5, f6⟩ := UJ (UB X1)
   go_wp2_with fail
   refine (UB HB _ _ _ _ _ (UB J1)).mono ?_
   rintro e w2 ⟨rfl, b2⟩
   clear d0 d1 d2 d3 d4 d5 d6 f0 f1 f2 f3 f4 f5 f6
   have bb2 := UG bb1 b2
   have K2 := UC (UE b2 (UB K1))
   have X2 := UC (UE b2 (UB X1))
   have H2 := UC ((UB H1).below b2)
   have J2 := UC ((UB J1).below b2)
   clear K1 X1 H1 J1 b2
   obtain ⟨d0, d1, d2, d3, d4, d5, d6⟩ := UJ (UB K2)
   obtain ⟨f0, f1, f2, f3, f4, f5, f6⟩ := UJ (UB X2)
   go_wp2_with fail
   refine (UB HC _ _ _ _ _ _ _ _ _ (UB H2) (UB J2) (UB HTA) (UB HTB)).mono ?_
   rintro e w3 ⟨rfl, b3⟩
   go_wp2_with fail
   go_ret
   exact ⟨rfl, UG bb2 b3⟩
section
variable {P : Program} {ops : Array Oper} {Q : Exit → Act → World → Prop} {md : Region.Mode} {S : World → Prop}
theorem UY {i : Nat} {oi : Oper} {rest : List Oper} (hi : ops.toList.drop i = oi :: rest) : ops[i]? = some oi := by
 rw [← Array.getElem?_toList, ← List.head?_drop, hi]
 rfl
end
def flagF : Value → Option Bool
 | .bool b => some b
 | _ => none
def valF : Option Bool → Value
 | some b => .bool b
 | none => undef
def lookF (tm : Array Value) : List (Nat × Option Bool) → Nat → Option Bool
 | [], d => match tm[d]? with | some v => flagF v | none => none
 | (e, b) :: m, d => if Nat.beq e d then b else lookF tm m d
def FlagsF (tm : Array Value) (m : List (Nat × Option Bool)) (tm' : Array Value) : Prop := tm'.size = tm.size ∧ ∀ d, lookF tm m d = match tm'[d]? with | some v => flagF v | none => none
theorem FlagsF.nil (tm : Array Value) : FlagsF tm [] tm := ⟨rfl, fun d => rfl⟩
theorem flagF_val (b : Option Bool) : flagF (valF b) = b := by rcases b with _ | b <;> rfl
theorem FlagsF.cons {tm tm' : Array Value} {m : List (Nat × Option Bool)} (h : FlagsF tm m tm') {d : Nat} (hd : d < tm.size) (b : Option Bool) :
  FlagsF tm ((d, b) :: m) (tm'.setIfInBounds d (valF b)) := by
 refine ⟨by rw [Array.size_setIfInBounds]; exact h.1, fun e => ?_⟩
 simp only [lookF]
 by_cases q : d = e
 ·subst q
  rw [if_pos (Nat.beq_refl d), Array.getElem?_setIfInBounds_self_of_lt (by rw [h.1]; exact hd)]
  exact (flagF_val b).symm
 ·rw [if_neg (by rw [Nat.beq_eq]; exact q), Array.getElem?_setIfInBounds_ne q]
  exact h.2 e
def callsA : Op → Bool
 | .call c => match c.callee with | .builtin _ => false | _ => true
 | _ => false
def upA (i n : Nat) : Array Bool := ((List.range n).map (fun j => decide (j < i))).toArray
theorem upA_get {i n j : Nat} {d : Bool} (hj : j < n) : (upA i n).getD j d = decide (j < i) := by
 unfold upA
 simp [Array.getD_eq_getD_getElem?, hj]
theorem upA_out {i n j : Nat} {d : Bool} (hj : n ≤ j) : (upA i n).getD j d = d := by
 unfold upA
 simp [Array.getD_eq_getD_getElem?, hj]
def ascL (md : Region.Mode) (ops : Array Oper) : Nat → List Oper → Bool
 | _, [] => true
 | i, oi :: rest => oi.after.all (fun e => !Region.binds md e || Nat.blt e.on i) && (rest.all (fun oj => oj.after.any (fun e => Region.binds md e && Nat.beq e.on i) || oi.apart ops oj) && ascL md ops (i + 1) rest)
def soleL (md : Region.Mode) (i : Nat) (l : List Oper) : Bool := l.all (fun oj => oj.after.any (fun e => Region.binds md e && Nat.ble i e.on))
structure AscA (md : Region.Mode) (ops : Array Oper) : Prop where
 sel : Region.noSelect ops = true
 asc : ascL md ops 0 ops.toList = true
theorem ascL_drop {md : Region.Mode} {ops : Array Oper} : ∀ (l : List Oper) (k i : Nat), ascL md ops k l = true → ascL md ops (k + i) (l.drop i) = true
 | l, k, 0, h => h
 | [], k, i + 1, h => rfl
 | o :: l, k, i + 1, h => by
  unfold ascL at h
  simp only [Bool.and_eq_true] at h
  have := ascL_drop l (k + 1) i h.2.2
  rwa [Nat.add_assoc, Nat.add_comm 1 i] at this
section
variable {P : Program} {ops : Array Oper} {Q : Exit → Act → World → Prop} {md : Region.Mode} {S : World → Prop}
theorem size_of_drop {i : Nat} {oi : Oper} {rest : List Oper} (hi : ops.toList.drop i = oi :: rest) : i < ops.size := by
 have := congrArg List.length hi
 simp only [List.length_drop, List.length_cons, Array.length_toList] at this
 omega
theorem AscA.at_ (h : AscA md ops) {i : Nat} {oi : Oper} {rest : List Oper} (hi : ops.toList.drop i = oi :: rest) :
  (∀ e ∈ oi.after, Region.binds md e = true → e.on < i) ∧ ∀ (j : Nat) (oj : Oper), i < j → ops[j]? = some oj → (∃ e ∈ oj.after, Region.binds md e = true ∧ e.on = i) ∨ oi.apart ops oj = true := by
 have h2 := ascL_drop ops.toList 0 i h.asc
 rw [hi, Nat.zero_add] at h2
 unfold ascL at h2
 simp only [Bool.and_eq_true, Array.all_eq_true', Bool.or_eq_true, Bool.not_eq_true', List.all_eq_true] at h2
 refine ⟨fun e he hb => ?_, fun j oj hij hj => ?_⟩
 ·rcases h2.1 e he with q | q
  ·rw [hb] at q; cases q
  ·simpa [Nat.blt_eq] using q
 ·have hm : oj ∈ rest := by
   have e1 : ops.toList[j]? = some oj := by rw [Array.getElem?_toList]; exact hj
   obtain ⟨k, rfl⟩ : ∃ k, j = i + 1 + k := ⟨j - (i + 1), by omega⟩
   have e2 : (ops.toList.drop i)[k + 1]? = some oj := by rw [List.getElem?_drop, show i + (k + 1) = i + 1 + k by omega]; exact e1
   rw [hi, List.getElem?_cons_succ] at e2
   exact List.mem_of_getElem? e2
  rcases h2.2.1 oj hm with q | q
  ·obtain ⟨e, he, hb⟩ := Array.any_eq_true'.1 q
   simp only [Bool.and_eq_true] at hb
   exact .inl ⟨e, he, hb.1, Nat.eq_of_beq_eq_true hb.2⟩
  ·exact .inr q
theorem AscA.free (h : AscA md ops) {i : Nat} {oi : Oper} {rest : List Oper} (hi : ops.toList.drop i = oi :: rest) : Region.free md ops (upA i ops.size) i = true := by
 unfold Region.free
 rw [UY hi]
 simp only [List.all_eq_true, List.mem_range, Bool.or_eq_true]
 intro j hj
 by_cases q : j ≤ i
 ·by_cases e : j = i
  ·exact .inl (.inl (by simpa using e))
  ·refine .inl (.inr ?_)
   rw [upA_get hj]
   exact decide_eq_true (by omega)
 ·obtain ⟨oj, hoj⟩ : ∃ oj, ops[j]? = some oj := ⟨ops[j], by simp [hj]⟩
  rw [hoj]
  simp only [Bool.or_eq_true]
  refine .inr ?_
  rcases (h.at_ hi).2 j oj (by omega) hoj with ⟨e, he, hb, hon⟩ | q
  ·exact .inl (Array.any_eq_true'.2 ⟨e, he, by rw [hb, hon]; simp⟩)
  ·exact .inr q
theorem AscA.ready_at (h : AscA md ops) {i : Nat} {oi : Oper} {rest : List Oper} (hi : ops.toList.drop i = oi :: rest) {j : Nat} : j ∈ Region.ready md ops (upA i ops.size) ↔
  j < ops.size ∧ i ≤ j ∧ ∀ oj, ops[j]? = some oj → ∀ e ∈ oj.after, Region.binds md e = true → e.on < i := by
 have hin := size_of_drop hi
 unfold Region.ready
 simp only [List.mem_filter, List.mem_range, Bool.and_eq_true, Bool.not_eq_true']
 constructor
 ·rintro ⟨hj, h1, h2⟩
  rw [upA_get hj] at h1
  refine ⟨hj, by simpa using h1, fun oj hoj e he hb => ?_⟩
  rw [hoj] at h2
  simp only [Option.map_some, Option.getD_some, Array.all_eq_true', Bool.or_eq_true, Bool.not_eq_true'] at h2
  rcases h2 e he with q | q
  ·rw [hb] at q; cases q
  ·by_cases hs : e.on < ops.size
   ·rw [upA_get hs] at q
    exact of_decide_eq_true q
   ·rw [upA_out (by omega)] at q
    cases q
 ·rintro ⟨hj, h1, h2⟩
  refine ⟨hj, by rw [upA_get hj]; exact decide_eq_false (by omega), ?_⟩
  have hoj : ops[j]? = some ops[j] := by simp [hj]
  rw [hoj]
  simp only [Option.map_some, Option.getD_some, Array.all_eq_true', Bool.or_eq_true, Bool.not_eq_true']
  intro e he
  by_cases hb : Region.binds md e = true
  ·refine .inr ?_
   have := h2 _ hoj e he hb
   rw [upA_get (by omega)]
   exact decide_eq_true this
  ·exact .inl (by simpa using hb)
theorem AscA.ready (h : AscA md ops) {i : Nat} {oi : Oper} {rest : List Oper} (hi : ops.toList.drop i = oi :: rest) : (Region.ready md ops (upA i ops.size)).contains i = true := by
 rw [List.contains_iff_mem]
 exact (h.ready_at hi).2 ⟨size_of_drop hi, Nat.le_refl _, fun oj hoj => by rw [UY hi] at hoj; cases hoj; exact (h.at_ hi).1⟩
theorem filter_one {p : Nat → Bool} {n i : Nat} (hi : i < n) (hp : p i = true) (hn : ∀ j, j < n → j ≠ i → p j = false) : (List.range n).filter p = [i] := by
 induction n with
 | zero => omega
 | succ n ih =>
  rw [List.range_succ, List.filter_append]
  by_cases e : i = n
  ·subst e
   rw [List.filter_eq_nil_iff.2 (fun j hj => by rw [hn j (by have := List.mem_range.1 hj; omega) (by have := List.mem_range.1 hj; omega)]; simp)]
   simp [hp]
  ·rw [ih (by omega) (fun j hj hne => hn j (by omega) hne)]
   simp [hn n (by omega) (by omega)]
theorem AscA.sole (h : AscA md ops) {i : Nat} {oi : Oper} {rest : List Oper} (hi : ops.toList.drop i = oi :: rest) (hs : soleL md i rest = true) : Region.ready md ops (upA i ops.size) = [i] := by
 have hin := size_of_drop hi
 have hm := h.ready hi
 rw [List.contains_iff_mem] at hm
 have hnot : ∀ j, j ≠ i → j ∉ Region.ready md ops (upA i ops.size) := fun j hne hj => by
  obtain ⟨hj1, hj2, hj3⟩ := (h.ready_at hi).1 hj
  have hoj : ops[j]? = some ops[j] := by simp [hj1]
  have hmem : ops[j] ∈ rest := by
   obtain ⟨k, rfl⟩ : ∃ k, j = i + 1 + k := ⟨j - (i + 1), by omega⟩
   have e2 : (ops.toList.drop i)[k + 1]? = some ops[i + 1 + k] := by rw [List.getElem?_drop, show i + (k + 1) = i + 1 + k by omega, Array.getElem?_toList]; exact hoj
   rw [hi, List.getElem?_cons_succ] at e2
   exact List.mem_of_getElem? e2
  unfold soleL at hs
  rw [List.all_eq_true] at hs
  obtain ⟨e, he, hb⟩ := Array.any_eq_true'.1 (hs _ hmem)
  simp only [Bool.and_eq_true] at hb
  have := hj3 _ hoj e he hb.1
  have := Nat.le_of_ble_eq_true hb.2
  omega
 have hx : ∀ j, j ∈ Region.ready md ops (upA i ops.size) → j = i := fun j hj => Classical.byContradiction (fun q => hnot j q hj)
 unfold Region.ready at hm hx ⊢
 refine filter_one hin (List.mem_filter.1 hm).2 (fun j hj hne => ?_)
 rw [Bool.eq_false_iff]
 intro q
 exact hne (hx j (List.mem_filter.2 ⟨List.mem_range.2 hj, q⟩))
end
end Go.Proofs.YthmihglfffeedaaGreatDoor
