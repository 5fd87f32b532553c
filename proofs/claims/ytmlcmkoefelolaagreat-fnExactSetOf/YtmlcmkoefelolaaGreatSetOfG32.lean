/-
  Plain facts: in a region whose order is open, a load may be taken first, even if what waits for it writes the cell that it reads. No program is named here. Contracts of the program's zoneOf, over whatever iterator of records, and copyZone. Plain facts: what SetOf answers. No program is named here.
-/
import Derived.Test.YtmlcmkoefelolaaGreatSetOfG00
import Derived.OrdersHeld
import Derived.RegionTactic
import Derived.Test.YtmlcmkoefelolaaGreatSetOfG22
import Derived.Test.YtmlcmkoefelolaaGreatSetOfG31
import Derived.Test.YtmlcmkoefelolaaGreatSetOfG04
import Derived.Test.YtmlcmkoefelolaaGreatSetOfG09
import Derived.RangeFuncBox
import Derived.Test.YtmlcmkoefelolaaGreatSetOfG20
import Derived.Test.YtmlcmkoefelolaaGreatSetOfG17
namespace Go.Proofs.YtmlcmkoefelolaaGreat
open Go.RowKit

section
variable {P : Program} {ops : Array Oper} {Q : Exit → Act → World → Prop} {md : Region.Mode} {S : World → Prop} {T : Nat → Bool}

/-- Whatever comes up next; behind those of T the world is as S says. -/
def AnyT (P : Program) (md : Region.Mode) (ops : Array Oper) (Q : Exit → Act → World → Prop) (S : World → Prop) (T : Nat → Bool) : Nat → Array Bool → Act → World → Prop
 | 0, done, a, w => Region.ready md ops done = [] ∧ Q .normal a w
 | n + 1, done, a, w => (Region.ready md ops done = [] → Q .normal a w) ∧ ∀ j, j ∈ Region.ready md ops done → wpOp P ops Q j (fun a1 w1 => (T j = true → S w1) ∧ AnyT P md ops Q S T n (done.setIfInBounds j true) a1 w1) a w

/-- Once all of T have come up, nothing more is asked. -/
theorem AnyT.of_any : ∀ (n : Nat) (done : Array Bool) (a : Act) (w : World), (∀ j, T j = true → done.getD j true = true) → wpAny P md ops Q n done a w → AnyT P md ops Q S T n done a w
 | 0, _, _, _, _, h => h
 | n + 1, done, a, w, hT, h => by
  refine ⟨h.1, fun j hj => wpOp_mono (fun a1 w1 h1 => ⟨fun ht => ?_, AnyT.of_any n _ a1 w1 (fun k hk => ?_) h1⟩) (h.2 j hj)⟩
  ·have := (mem_ready.1 hj).1
   rw [hT j ht] at this
   cases this
  ·by_cases e : j = k
   ·subst e
    by_cases hlt : j < done.size <;> simp [hlt]
   ·rw [getD_set_ne true e]
    exact hT k hk

theorem AnyT.over (n : Nat) (done : Array Bool) (a : Act) (w : World) (hT : (List.range done.size).all (fun j => !T j || done.getD j true) = true) (h : wpAny P md ops Q n done a w) : AnyT P md ops Q S T n done a w := by
 refine AnyT.of_any n done a w (fun j hj => ?_) h
 by_cases hlt : j < done.size
 ·have := List.all_eq_true.1 hT j (by simpa using hlt)
  rw [hj] at this
  simpa using this
 ·simp [hlt]

/-- Number i is taken first: T are those that might come ahead of it. -/
theorem any_firstT {i : Nat} {oi : Oper} {v : Value} (hi : ops[i]? = some oi) (hsel : ∀ (j : Nat) (o : Oper) cs b, ops[j]? = some o → o.op ≠ .select cs b) (hQ : ∀ c a w, Q (.panic c) (a.put oi.dst v) w → Q (.panic c) a w)
  (hT : ∀ (j : Nat) (oj : Oper), ops[j]? = some oj → j ≠ i → (∀ e ∈ oj.after, Region.binds md e = true → e.on ≠ i) → T j = true) (n : Nat) :
  ∀ (done : Array Bool) (a : Act) (w : World), (∀ j oj, ops[j]? = some oj → j ≠ i → done.getD j true = false → (∀ e ∈ oj.after, Region.binds md e = true → e.on ≠ i) → oi.apart ops oj = true) →
   i ∈ Region.ready md ops done → YieldsIf P ops S oi v a → S w → AnyT P md ops Q S T n (done.setIfInBounds i true) (a.put oi.dst v) w → wpAny P md ops Q (n + 1) done a w := by
 induction n with
 | zero =>
  intro done a w _ hr hy hS H
  refine ⟨fun q => absurd (q ▸ hr) (by simp), fun j hj => ?_⟩
  rcases Decidable.em (j = i) with rfl | hji
  ·exact hy.wpOp hi hS H
  ·have hq := ready_mono hj hji
   rw [H.1] at hq
   exact absurd hq (by simp)
 | succ n ih =>
  intro done a w hfree hr hy hS H
  refine ⟨fun q => absurd (q ▸ hr) (by simp), fun j hj => ?_⟩
  rcases Decidable.em (j = i) with rfl | hji
  ·refine hy.wpOp hi hS ?_
   have strip : ∀ (m : Nat) (d : Array Bool) (a : Act) (w : World), AnyT P md ops Q S T m d a w → wpAny P md ops Q m d a w := by
    intro m
    induction m with
    | zero => intro d a w h; exact h
    | succ m im => intro d a w h; exact ⟨h.1, fun k hk => wpOp_mono (fun a1 w1 h1 => im _ _ _ h1.2) (h.2 k hk)⟩
   exact strip _ _ _ _ H
  ·obtain ⟨hun, oj, hoj, hall⟩ := mem_ready.1 hj
   have hno : ∀ e ∈ oj.after, Region.binds md e = true → e.on ≠ i := by
    intro e he hb q
    have h1 := hall e he hb
    have h0 := (mem_ready.1 hr).1
    rw [q] at h1
    by_cases hlt : i < done.size
    ·simp [hlt] at h0 h1
     rw [h0] at h1
     cases h1
    ·simp [hlt] at h0
   have step := wpOp_putIf hoj (hfree j oj hoj hji hun hno) (fun cs b => hsel i oi cs b hi) (fun cs b => hsel j oj cs b hoj) hQ hy (H.2 j (ready_mono hj hji))
   refine wpOp_mono (fun a1 w1 h1 => ?_) step
   refine ih (done.setIfInBounds j true) a1 w1 (fun k ok hk hki hu hn => hfree k ok hk hki ?_ hn) (ready_mono hr (Ne.symm hji)) h1.1 (h1.2.1 (hT j oj hoj hji hno)) ?_
   ·rcases Decidable.em (j = k) with rfl | hjk
    ·exact hun
    ·rwa [getD_set_ne true hjk] at hu
   ·have e : (done.setIfInBounds j true).setIfInBounds i true = (done.setIfInBounds i true).setIfInBounds j true := Array.setIfInBounds_comm _ _ hji
    rw [e]
    exact h1.2.2

/-- Those that wait for number i, as a Bool. -/
def waits (md : Region.Mode) (ops : Array Oper) (i : Nat) (j : Nat) : Bool := match ops[j]? with
 | some o => o.after.any (fun e => Region.binds md e && (e.on == i))
 | none => false
theorem any_takeT {i : Nat} {oi : Oper} {v : Value} {n : Nat} {done : Array Bool} {a : Act} {w : World} (S : World → Prop) (hi : ops[i]? = some oi) (hs : Region.noSelect ops = true) (hf : Region.free md ops done i = true) (hr : (Region.ready md ops done).contains i = true)
  (hQ : ∀ c a w, Q (.panic c) (a.put oi.dst v) w → Q (.panic c) a w) (hy : YieldsIf P ops S oi v a) (hS : S w)
  (h : AnyT P md ops Q S (fun j => !waits md ops i j) n (done.setIfInBounds i true) (a.put oi.dst v) w) : wpAny P md ops Q (n + 1) done a w := by
 refine any_firstT hi (Region.noSelect_spec hs) hQ (fun j oj hj hji hno => ?_) n done a w (Region.free_spec hi hf) (by simpa using hr) hy hS h
 unfold waits
 rw [hj]
 simp only [Bool.not_eq_true', Array.any_eq_false']
 intro e he q
 simp only [Bool.and_eq_true, beq_iff_eq] at q
 exact hno e he q.1 q.2

def AllT (P : Program) (md : Region.Mode) (ops : Array Oper) (Q : Exit → Act → World → Prop) (S : World → Prop) (T : Nat → Bool) (n : Nat) (done : Array Bool) (a : Act) (w : World) (js : List Nat) : Prop :=
 ∀ j, j ∈ js → wpOp P ops Q j (fun a1 w1 => (T j = true → S w1) ∧ AnyT P md ops Q S T n (done.setIfInBounds j true) a1 w1) a w
theorem AllT.nil {n : Nat} {done : Array Bool} {a : Act} {w : World} : AllT P md ops Q S T n done a w [] := fun _ h => absurd h (by simp)
theorem AllT.cons {n : Nat} {done : Array Bool} {a : Act} {w : World} {j : Nat} {o : Oper} {js : List Nat} (ho : ops[j]? = some o)
  (h : ∀ K : Act → World → Prop, (∀ a1 w1, S w1 → AnyT P md ops Q S T n (done.setIfInBounds j true) a1 w1 → K a1 w1) → if Region.wanted o (yielded ops a.tmps) = true then Oper.wp P o a w K Q else K (a.put o.dst undef) w)
  (hs : AllT P md ops Q S T n done a w js) : AllT P md ops Q S T n done a w (j :: js) := by
 intro k hk
 rcases List.mem_cons.1 hk with rfl | hk
 ·exact wpOp_step ho (fun K hK => h K (fun a1 w1 q1 q2 => hK a1 w1 ⟨fun _ => q1, q2⟩))
 ·exact hs k hk
theorem anyT_ready {n : Nat} {done : Array Bool} {a : Act} {w : World} {js : List Nat} (hr : Region.ready md ops done = js) (hne : js ≠ []) (h : AllT P md ops Q S T n done a w js) : AnyT P md ops Q S T (n + 1) done a w :=
 ⟨fun q => absurd (hr.symm.trans q) hne, fun j hj => h j (hr ▸ hj)⟩
end
end Go.Proofs.YtmlcmkoefelolaaGreat

namespace Go.Proofs.YtmlcmkoefelolaaGreat
open Go.RowKit Go.Shelf
set_option linter.unusedVariables false

theorem info_rrZ : (Tryz.prog.info? 52).map (fun i => (i.zero, i.size, i.bytes)) = some (some (.agg #[.slice none 0 0, .int .i64 0, .int .i64 0, .int .i64 0, .slice none 0 0, .slice none 0 0, .slice none 0 0]), 7, 120) := by kernel_rfl
def cellsV {w : World} (x : RecV w) : Array Value := #[x.1.1.1, .int .i64 x.1.2.type, .int .i64 x.1.2.ttl, .int .i64 x.1.2.addr, x.1.1.2.1, x.1.1.2.2.1, x.1.1.2.2.2]
theorem keepsFrom_of {B Z : Nat} {W Wd w2 w3 w4 : World} {v4 : Value} {row : Option Nat} {c : Array Value} {t : TypeId} {j : Nat} (h1 : Below W.heap.size W Wd) (h2 : Below Wd.heap.size Wd w2) (h3 : Below w2.heap.size w2 w3) (h4 : w3.grownBy w4 row) (hr : ∀ k o, w3.heap[k]? = some o → o.isCells = false → row ≠ some k) (hZ : w4.heap[Z]? = some (.cells c t)) : KeepsFrom B W (w4.setCell ⟨Z, j, none⟩ v4) := by
 have zs := (grown_setCell w4 ⟨Z, j, none⟩ v4).size
 have z1 := h1.size
 have z2 := h2.size
 have z3 := h3.size
 have z4 := h4.size
 refine ⟨by omega, fun k o hB hk ho => ?_⟩
 have q3 := block_kept h3 (block_kept h2 (block_kept h1 hk))
 have q4 := block_grown h4 q3 (hr k o q3 ho)
 refine block_grown (grown_setCell w4 ⟨Z, j, none⟩ v4) q4 ?_
 intro e
 simp only [Option.some.injEq] at e
 subst e
 rw [hZ] at q4
 cases q4
 cases ho

end Go.Proofs.YtmlcmkoefelolaaGreat

namespace Go.Proofs.YtmlcmkoefelolaaGreat
open Go.RowKit
set_option linter.unusedVariables false

def selT (t : Int) (r : Rec) : Bool := (t == 255) || (r.type == t)
def setOf (o : List (List Int)) (rs : List Rec) (n : List (List Int)) (t : Int) : List Rec := if zoneOk o rs = true ∧ nameOk n = true then selK n t rs rs.length else []
theorem selK_filter (n : List (List Int)) (t : Int) (rs : List Rec) : selK n t rs rs.length = rs.filter (selB n t) := by
 have h : ∀ k, k ≤ rs.length → selK n t rs k = (rs.take k).filter (selB n t) := by
  intro k
  induction k with
  | zero => intro _; simp [selK]
  | succ k ih =>
   intro hk
   have hkl : k < rs.length := by omega
   have e : rs.getD k recZ = rs[k] := by simp [hkl]
   rw [selK, ih (by omega), List.take_succ_eq_append_getElem hkl, List.filter_append, e]
   by_cases hs : selB n t rs[k] = true
   ·rw [if_pos hs, List.filter_cons_of_pos hs, List.filter_nil]
   ·rw [if_neg hs, List.filter_cons_of_neg hs, List.filter_nil, List.append_nil]
 have := h rs.length (Nat.le_refl _)
 rwa [List.take_length] at this
theorem byteL_of {n : List (List Int)} (h : nameOk n = true) : ByteL n := fun l hl x hx => by
 have := sign_of h l hl x hx
 omega
theorem set_is {o n : List (List Int)} {rs : List Rec} (hz : zoneOk o rs = true) (hn : nameOk n = true) (t : Int) : (sortP ((ofName n rs).map (fun r => (keyR r, r)))).filter (selT t) = selK n t rs rs.length := by
 have hasc := keys_asc hz
 have hok := names_ok (zone_oks hz)
 rw [sortP_page hasc, selK_filter]
 ·unfold ofName
  rw [List.filter_filter]
  refine List.filter_congr (fun r hr => ?_)
  have hb : (cmpN r.name n == 0) = decide (r.name = n) := by
   rw [Bool.eq_iff_iff, beq_iff_eq, decide_eq_true_iff]
   exact cmpN_zero (byteL_of (hok r hr)) (byteL_of hn)
  unfold selB selT
  rw [hb, Bool.and_comm]
 ·rw [List.pairwise_map]
  have h1 : (ofName n rs).Pairwise (fun a b => a.name = b.name → cmpB (keyD a) (keyD b) = -1) := hasc.filter _
  refine List.Pairwise.imp_of_mem ?_ h1
  intro a b ha hb h e
  have na := (List.mem_filter.1 ha).2
  have nb := (List.mem_filter.1 hb).2
  simp only [decide_eq_true_eq] at na nb
  have e2 := h (na.trans nb.symm)
  have e3 : cmpB (keyD a) (keyD b) = cmpB (keyD b) (keyD b) := by
   unfold cmpB
   rw [show strOfNums (keyD a) = strOfNums (keyD b) from e]
  rw [cmpB_self] at e3
  omega
theorem page_of_zone {o n : List (List Int)} {rs : List Rec} (hz : zoneOk o rs = true) (hn : nameOk n = true) : (lookA (strOfNums (keyN n)) (rs.foldl (fun B r => bkPut (strOfNums (keyN r.name)) (strOfNums (keyD r)) r B) [])).getD [] = (ofName n rs).map (fun r => (keyR r, r)) := page_is hn rs (names_ok (zone_oks hz)) (keys_asc hz) keyR rfl
theorem ofName_short {o n : List (List Int)} {rs : List Rec} (hz : zoneOk o rs = true) : ((ofName n rs).map (fun r => (keyR r, r))).length ≤ 1000 ∧ ∀ x ∈ (ofName n rs).map (fun r => (keyR r, r)), ShortR x.2 := by
 have h := zone_short hz
 refine ⟨?_, fun x hx => ?_⟩
 ·rw [List.length_map]
  have := List.length_filter_le (fun r : Rec => decide (r.name = n)) rs
  unfold ofName
  omega
 ·obtain ⟨r, hr, rfl⟩ := List.mem_map.1 hx
  obtain ⟨i, hi, rfl⟩ := List.getElem_of_mem (List.mem_filter.1 hr).1
  have := h.2.1 i hi
  simpa [hi] using this
theorem selK_short {o n : List (List Int)} {rs : List Rec} (hz : zoneOk o rs = true) (t : Int) : (selK n t rs rs.length).length ≤ 60 ∧ ∀ i, i < (selK n t rs rs.length).length → rrOk ((selK n t rs rs.length).getD i recZ) = true := by
 have h := zone_oks hz
 have h60 := (zone_short hz).2.2
 refine ⟨by have := selK_length n t rs rs.length; omega, fun i hi => ?_⟩
 have hm : (selK n t rs rs.length).getD i recZ ∈ selK n t rs rs.length := by simp [hi]
 rw [selK_filter] at hm
 obtain ⟨j, hj, e⟩ := List.getElem_of_mem (List.mem_filter.1 hm).1
 have := h j hj
 rw [selK_filter, ← e]
 simpa [hj] using this
theorem setOf_size (o : List (List Int)) (rs : List Rec) (n : List (List Int)) (t : Int) : (setOf o rs n t).length ≤ 60 ∧ ∀ i, i < (setOf o rs n t).length → SizeR 1048576 ((setOf o rs n t).getD i recZ) := by
 unfold setOf
 by_cases h : zoneOk o rs = true ∧ nameOk n = true
 ·rw [if_pos h]
  have h1 := selK_short (n := n) h.1 t
  exact ⟨h1.1, fun i hi => size_of_short (short_rec (h1.2 i hi))⟩
 ·rw [if_neg h]
  exact ⟨by simp, fun i hi => absurd hi (by simp)⟩
end Go.Proofs.YtmlcmkoefelolaaGreat
