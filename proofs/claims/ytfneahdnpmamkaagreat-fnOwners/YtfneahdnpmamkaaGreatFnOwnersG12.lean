/-
  Contract of the specification's l1PickInt: what is picked has the property that all have. Plain facts: in a region whose order is open, a load may be taken first, even if what Zb for it writes the cell that it reads. No program is named here.
-/
import Derived.Test.YtfneahdnpmamkaaGreatFnOwnersG11
import Derived.OrdersHeld
import Derived.RegionTactic
namespace Go.Proofs.YtfneahdnpmamkaaGreat
open Go.RowKit
set_option linter.unusedVariables false

set_option maxHeartbeats 1000000 in
set_option maxRecDepth 100000 in
theorem Cj {g : Nat} {a : Option Addr} {len cap : Nat} {w : World} (gl n : Nat) (p : Int → Prop) (hc : Cur w g a len cap) (hL : Code w g a len) (hm : len ≤ maxLen) (hn0 : 1 ≤ n) (hn1 : n ≤ 1048576) (hlt : gl < w.heap.size) (hgl : g < gl)
  (hcell : ∀ j, j < n → ∃ z, w.cell? ⟨gl, j, none⟩ = some (.int .i64 z) ∧ p z) :
  Calls Tryz.prog 58 #[.pointer (some ⟨g, 0, none⟩), .slice (some ⟨gl, 0, none⟩) n n] w fun e w' => ∃ z, e = .returned (.int .i64 z) ∧ p z ∧ Cur w' g a len cap ∧ w.grownBy w' (some g) := by
 have HM := UC hm
 clear hm
 have HC := UC hcell
 clear hcell
 go_enter Tryz.func58, Tryz.ntmps58
 go_wp2_with fail
 refine (A9 n hc hL (UB HM) (by omega) (by omega)).mono ?_
 rintro e w1 ⟨x, rfl, hx0, hx1, hc1, g1⟩
 obtain ⟨j, rfl⟩ := Int.eq_ofNat_of_zero_le hx0
 obtain ⟨z, hz, hp⟩ := (UB HC) j (by omega)
 have hz1 : w1.cell? ⟨gl, j, none⟩ = some (.int .i64 z) := by
  rw [World.cell?_of_block (w := w) (g1.block gl hlt (by simp; omega))]; exact hz
 have HP := UC hp
 clear hz hp
 go_wp2
 go_ret
 exact ⟨z, rfl, UB HP, hc1, g1⟩
end Go.Proofs.YtfneahdnpmamkaaGreat

namespace Go.Proofs.YtfneahdnpmamkaaGreat
open Go.RowKit

section
variable {P : Program} {ops : Array Oper} {Q : Exit → Act → World → Prop} {md : Region.Mode} {S : World → Prop} {T : Nat → Bool}

def AnyT (P : Program) (md : Region.Mode) (ops : Array Oper) (Q : Exit → Act → World → Prop) (S : World → Prop) (T : Nat → Bool) : Nat → Array Bool → Act → World → Prop
 | 0, done, a, w => Region.ready md ops done = [] ∧ Q .normal a w
 | n + 1, done, a, w => (Region.ready md ops done = [] → Q .normal a w) ∧ ∀ j, j ∈ Region.ready md ops done → wpOp P ops Q j (fun a1 w1 => (T j = true → S w1) ∧ AnyT P md ops Q S T n (done.setIfInBounds j true) a1 w1) a w

theorem AnyT.of_any : ∀ (n : Nat) (done : Array Bool) (a : Act) (w : World), (∀ j, T j = true → done.getD j true = true) → wpAny P md ops Q n done a w → AnyT P md ops Q S T n done a w
 | 0, _, _, _, _, h => h
 | n + 1, done, a, w, hT, h => by
  refine ⟨h.1, fun j hj => wpOp_mono (fun a1 w1 h1 => ⟨fun ht => ?_, AnyT.of_any n _ a1 w1 (fun k hk => ?_) h1⟩) (h.2 j hj)⟩
  ·have := (mem_ready.1 hj).1
   rw [hT j ht] at this
   cases this
  ·by_cases e : j = k
   ·subst e
    by_cases hlt : j < done.size <;> simp [hlt]
   ·rw [getD_set_ne true e]
    exact hT k hk

theorem AnyT.over (n : Nat) (done : Array Bool) (a : Act) (w : World) (hT : (List.range done.size).all (fun j => !T j || done.getD j true) = true) (h : wpAny P md ops Q n done a w) : AnyT P md ops Q S T n done a w := by
 refine AnyT.of_any n done a w (fun j hj => ?_) h
 by_cases hlt : j < done.size
 ·have := List.all_eq_true.1 hT j (by simpa using hlt)
  rw [hj] at this
  simpa using this
 ·simp [hlt]

theorem Ui {i : Nat} {oi : Oper} {v : Value} (hi : ops[i]? = some oi) (hsel : ∀ (j : Nat) (o : Oper) cs b, ops[j]? = some o → o.op ≠ .select cs b) (hQ : ∀ c a w, Q (.panic c) (a.put oi.dst v) w → Q (.panic c) a w)
  (hT : ∀ (j : Nat) (oj : Oper), ops[j]? = some oj → j ≠ i → (∀ e ∈ oj.after, Region.binds md e = true → e.on ≠ i) → T j = true) (n : Nat) :
  ∀ (done : Array Bool) (a : Act) (w : World), (∀ j oj, ops[j]? = some oj → j ≠ i → done.getD j true = false → (∀ e ∈ oj.after, Region.binds md e = true → e.on ≠ i) → oi.apart ops oj = true) →
   i ∈ Region.ready md ops done → YieldsIf P ops S oi v a → S w → AnyT P md ops Q S T n (done.setIfInBounds i true) (a.put oi.dst v) w → wpAny P md ops Q (n + 1) done a w := by
 induction n with
 | zero =>
  intro done a w _ hr hy hS H
  refine ⟨fun q => absurd (q ▸ hr) (by simp), fun j hj => ?_⟩
  rcases Decidable.em (j = i) with rfl | hji
  ·exact hy.wpOp hi hS H
  ·have hq := ready_mono hj hji
   rw [H.1] at hq
   exact absurd hq (by simp)
 | succ n ih =>
  intro done a w hfree hr hy hS H
  refine ⟨fun q => absurd (q ▸ hr) (by simp), fun j hj => ?_⟩
  rcases Decidable.em (j = i) with rfl | hji
  ·refine hy.wpOp hi hS ?_
   have strip : ∀ (m : Nat) (d : Array Bool) (a : Act) (w : World), AnyT P md ops Q S T m d a w → wpAny P md ops Q m d a w := by
    intro m
    induction m with
    | zero => intro d a w h; exact h
    | succ m im => intro d a w h; exact ⟨h.1, fun k hk => wpOp_mono (fun a1 w1 h1 => im _ _ _ h1.2) (h.2 k hk)⟩
   exact strip _ _ _ _ H
  ·obtain ⟨hun, oj, hoj, hall⟩ := mem_ready.1 hj
   have hno : ∀ e ∈ oj.after, Region.binds md e = true → e.on ≠ i := by
    intro e he hb q
    have h1 := hall e he hb
    have h0 := (mem_ready.1 hr).1
    rw [q] at h1
    by_cases hlt : i < done.size
    ·simp [hlt] at h0 h1
     rw [h0] at h1
     cases h1
    ·simp [hlt] at h0
   have step := wpOp_putIf hoj (hfree j oj hoj hji hun hno) (fun cs b => hsel i oi cs b hi) (fun cs b => hsel j oj cs b hoj) hQ hy (H.2 j (ready_mono hj hji))
   refine wpOp_mono (fun a1 w1 h1 => ?_) step
   refine ih (done.setIfInBounds j true) a1 w1 (fun k ok hk hki hu hn => hfree k ok hk hki ?_ hn) (ready_mono hr (Ne.symm hji)) h1.1 (h1.2.1 (hT j oj hoj hji hno)) ?_
   ·rcases Decidable.em (j = k) with rfl | hjk
    ·exact hun
    ·rwa [getD_set_ne true hjk] at hu
   ·have e : (done.setIfInBounds j true).setIfInBounds i true = (done.setIfInBounds i true).setIfInBounds j true := Array.setIfInBounds_comm _ _ hji
    rw [e]
    exact h1.2.2

def Zb (md : Region.Mode) (ops : Array Oper) (i : Nat) (j : Nat) : Bool := match ops[j]? with
 | some o => o.after.any (fun e => Region.binds md e && (e.on == i))
 | none => false
theorem Gg {i : Nat} {oi : Oper} {v : Value} {n : Nat} {done : Array Bool} {a : Act} {w : World} (S : World → Prop) (hi : ops[i]? = some oi) (hs : Region.noSelect ops = true) (hf : Region.free md ops done i = true) (hr : (Region.ready md ops done).contains i = true)
  (hQ : ∀ c a w, Q (.panic c) (a.put oi.dst v) w → Q (.panic c) a w) (hy : YieldsIf P ops S oi v a) (hS : S w)
  (h : AnyT P md ops Q S (fun j => !Zb md ops i j) n (done.setIfInBounds i true) (a.put oi.dst v) w) : wpAny P md ops Q (n + 1) done a w := by
 refine Ui hi (Region.noSelect_spec hs) hQ (fun j oj hj hji hno => ?_) n done a w (Region.free_spec hi hf) (by simpa using hr) hy hS h
 unfold Zb
 rw [hj]
 simp only [Bool.not_eq_true', Array.any_eq_false']
 intro e he q
 simp only [Bool.and_eq_true, beq_iff_eq] at q
 exact hno e he q.1 q.2

def AllT (P : Program) (md : Region.Mode) (ops : Array Oper) (Q : Exit → Act → World → Prop) (S : World → Prop) (T : Nat → Bool) (n : Nat) (done : Array Bool) (a : Act) (w : World) (js : List Nat) : Prop :=
 ∀ j, j ∈ js → wpOp P ops Q j (fun a1 w1 => (T j = true → S w1) ∧ AnyT P md ops Q S T n (done.setIfInBounds j true) a1 w1) a w
theorem AllT.nil {n : Nat} {done : Array Bool} {a : Act} {w : World} : AllT P md ops Q S T n done a w [] := fun _ h => absurd h (by simp)
theorem AllT.cons {n : Nat} {done : Array Bool} {a : Act} {w : World} {j : Nat} {o : Oper} {js : List Nat} (ho : ops[j]? = some o)
  (h : ∀ K : Act → World → Prop, (∀ a1 w1, S w1 → AnyT P md ops Q S T n (done.setIfInBounds j true) a1 w1 → K a1 w1) → if Region.wanted o (yielded ops a.tmps) = true then Oper.wp P o a w K Q else K (a.put o.dst undef) w)
  (hs : AllT P md ops Q S T n done a w js) : AllT P md ops Q S T n done a w (j :: js) := by
 intro k hk
 rcases List.mem_cons.1 hk with rfl | hk
 ·exact wpOp_step ho (fun K hK => h K (fun a1 w1 q1 q2 => hK a1 w1 ⟨fun _ => q1, q2⟩))
 ·exact hs k hk
theorem Al {n : Nat} {done : Array Bool} {a : Act} {w : World} {js : List Nat} (hr : Region.ready md ops done = js) (hne : js ≠ []) (h : AllT P md ops Q S T n done a w js) : AnyT P md ops Q S T (n + 1) done a w :=
 ⟨fun q => absurd (hr.symm.trans q) hne, fun j hj => h j (hr ▸ hj)⟩
end
end Go.Proofs.YtfneahdnpmamkaaGreat
