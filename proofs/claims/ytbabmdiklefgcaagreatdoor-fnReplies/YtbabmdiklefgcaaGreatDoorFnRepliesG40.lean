/-
  Contract of the specification's l4rrs. Contract of the specification's l4asked.
-/
import Derived.Test.YtbabmdiklefgcaaGreatDoorFnRepliesG06
import Derived.Test.YtbabmdiklefgcaaGreatDoorFnRepliesG36
import Derived.Test.YtbabmdiklefgcaaGreatDoorFnRepliesG05
import Derived.Test.YtbabmdiklefgcaaGreatDoorFnRepliesG08
namespace Go.Proofs.YtbabmdiklefgcaaGreatDoor
open Go.RowKit
set_option linter.unusedVariables false

set_option maxHeartbeats 1000000 in
set_option maxRecDepth 100000 in
theorem l4rrs_has {v : Value} {l : List Rec} {w : World} (h : HasRs w v l) :
  Calls Tryz.prog 36 #[v] w fun e w' => e = .returned (.bool (rrsOk l)) ∧ Below w.heap.size w w' := by
 obtain ⟨a, cap, rfl, hl, hm⟩ := h.form
 unfold rrsOk maxLen at *
 have HA := UC (all_of (p := rrOk) l recZ)
 have HB := UC (fun k (hk : k < l.length) (hp : rrOk (l.getD k recZ) = false) => all_not (p := rrOk) l recZ hk hp)
 by_cases h12 : l.length ≤ 12
 ·rw [decide_eq_true h12, Bool.true_and]
  generalize l.all rrOk = R at *
  generalize hn : l.length = m at *
  have HN := UC hn
  have H := UC h
  clear hn h
  go_enter Tryz.func36, Tryz.ntmps36
  go_wp2
  go_loopw [3] (fun i wr => ∃ k : Nat, k ≤ m ∧ i = .int .i64 k ∧ Hid (∀ j, j < k → rrOk (l.getD j recZ) = true) ∧ Below w.heap.size w wr) (fun i _ => m - (intOf i).toNat)
  case atStart => exact ⟨0, Nat.zero_le _, rfl, UC (fun j hj => absurd hj (Nat.not_lt_zero _)), Below.refl _ _⟩
  case round =>
   obtain ⟨k, hk, rfl, hall, hb⟩ := hrel
   by_cases hlt : k < m
   ·obtain ⟨b, off, na, nc, ta, tc, xa, xc, ia, ic, rfl, hbl, hc, hu⟩ := ((UB H).below hb).here (k := k) (by rw [UB HN]; exact hlt)
    have hbk := UB HB k hlt
    have HBK := UC hbk
    have hone := UC (fun (hs : rrOk (l.getD k recZ) = true) => (show ∀ j, j < k + 1 → rrOk (l.getD j recZ) = true from fun j hj => by
      by_cases e : j = k
      ·subst e; exact hs
      ·exact UB hall j (by omega)))
    clear hbk
    generalize l.getD k recZ = rk at *
    have HC := UC (specRrOk_has hu)
    obtain ⟨c0, c1, c2, c3, c4, c5, c6⟩ := VH hc
    clear hc hu
    cases hp : rrOk rk with
    | true =>
     have HC' := UB HC
     rw [show rrOk rk = true from hp] at HC'
     replace HC := UC HC'
     clear HC'
     go_wp2_with fail
     refine (UB HC).mono ?_
     rintro e w1 ⟨rfl, b1⟩
     clear c0 c1 c2 c3 c4 c5 c6
     have b2 := UG hb b1
     clear b1
     go_wp2_with fail
     exact ⟨⟨k + 1, by omega, by go_num, UC (UB hone hp), b2⟩, by simp [intOf]; omega⟩
    | false =>
     have HC' := UB HC
     rw [show rrOk rk = false from hp] at HC'
     replace HC := UC HC'
     clear HC'
     have hR := UB HBK hp
     subst hR
     go_wp2_with fail
     refine (UB HC).mono ?_
     rintro e w1 ⟨rfl, b1⟩
     clear c0 c1 c2 c3 c4 c5 c6
     have b2 := UG hb b1
     clear b1
     go_wp2_with fail
     go_ret
     exact ⟨rfl, b2⟩
   ·obtain rfl : k = m := by omega
    have hR := UB HA (UB hall)
    subst hR
    go_wp2
    go_ret
    exact ⟨rfl, hb⟩
 ·rw [decide_eq_false h12, Bool.false_and]
  clear HA HB h
  generalize l.length = m at *
  go_enter Tryz.func36, Tryz.ntmps36
  go_wp2
  go_ret
  exact ⟨rfl, Below.refl _ _⟩
set_option maxHeartbeats 1000000 in
set_option maxRecDepth 100000 in
theorem l4asked_any (t : Int) (w : World) : Calls Tryz.prog 35 #[.int .i64 t] w fun e w' => e = .returned (.bool (asked t)) ∧ w = w' := by
 have HT := specTypeOk_any t w
 unfold asked
 cases ht : typeOk t with
 | true =>
  rw [ht] at HT
  replace HT := UC HT
  rw [Bool.true_or]
  go_enter Tryz.func35, Tryz.ntmps35
  go_wp2_with fail
  refine (UB HT).mono ?_
  rintro e w1 ⟨rfl, rfl⟩
  go_wp2_with fail
  go_ret
  exact ⟨rfl, rfl⟩
 | false =>
  rw [ht] at HT
  replace HT := UC HT
  rw [Bool.false_or]
  by_cases h5 : t = 255
  ·rw [decide_eq_true h5]
   have h5' : (t == 255) = true := by rw [beq_iff_eq]; exact h5
   clear ht h5
   go_enter Tryz.func35, Tryz.ntmps35
   go_wp2_with fail
   refine (UB HT).mono ?_
   rintro e w1 ⟨rfl, rfl⟩
   go_wp2_with fail
   go_ret
   exact ⟨rfl, rfl⟩
  ·rw [decide_eq_false h5]
   have h5' : (t == 255) = false := by rw [beq_eq_false_iff_ne]; exact h5
   clear ht h5
   go_enter Tryz.func35, Tryz.ntmps35
   go_wp2_with fail
   refine (UB HT).mono ?_
   rintro e w1 ⟨rfl, rfl⟩
   go_wp2_with fail
   go_ret
   exact ⟨rfl, rfl⟩

end Go.Proofs.YtbabmdiklefgcaaGreatDoor
