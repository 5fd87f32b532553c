/-
  Plain facts: a region whose order is open, inside a round of a range over a function, by the laws for one outside. Plain facts: in a region whose order is open, a load may be taken first, even if what waits for it writes the cell that it reads. No program is named here. Contracts of the program's zoneOf, over whatever iterator of records, and copyZone. Plain facts: what SetOf answers. No program is named here.
-/
import Derived.Test.YtmlcmkoefelolaaGreatAddG00
import Derived.OrdersIn
import Derived.OrdersHeld
import Derived.RangeFuncCalls
import Derived.TacticsIn
import Derived.RegionTactic
import Derived.Test.YtmlcmkoefelolaaGreatAddG17
import Derived.Test.YtmlcmkoefelolaaGreatAddG03
import Derived.Test.YtmlcmkoefelolaaGreatAddG06
import Derived.RangeFuncBox
import Derived.Test.YtmlcmkoefelolaaGreatAddG15
import Derived.Test.YtmlcmkoefelolaaGreatAddG13
namespace Go.Proofs.YtmlcmkoefelolaaGreat
open Go.RowKit
set_option linter.unusedVariables false

theorem operIn_of {l n : Nat} {P : Program} {o : Oper} {a : Act} {w : World} {K K' : Act → World → Prop} {Q : Exit → Act → World → Prop} (hnd : ∀ c, o.op ≠ .defer c) (hk : ∀ a w, K a w → K' a w) (h : o.wp P a w K Q) :
  o.wpIn (Fence.wide.inRound l) n P a w K' Q := by
 refine ⟨fun f _ => trivial, ?_⟩
 rw [Fence.inRound_round, Oper.semAt_some l _ o hnd]
 unfold Oper.wp at h
 generalize (execOp a.eval o).run P w = r at *
 cases r with
 | ok x w' =>
  cases x with
  | value v => exact hk _ _ h
  | skip => exact hk _ _ h
  | defer d => exact hk _ _ h
  | enter f args => exact ⟨fun q => by simp [Fence.inRound, Fence.wide] at q, CallsIn.inRound l (callsIn_wide.2 (Calls.mono h (fun e w'' he => by cases e <;> first | exact hk _ _ he | exact he)))⟩
  | row row args => exact ⟨fun q => by simp [Fence.inRound, Fence.wide] at q, fun c cs _ => let ⟨v, w'', r, s⟩ := h c cs; ⟨v, w'', hk _ _ r, stepsIn_wide.2 s⟩⟩
  | _ => exact False.elim h
 | halt x w' => cases x <;> first | exact h | exact False.elim h

theorem anyIn_of {l n : Nat} {P : Program} {md : Region.Mode} {ops : Array Oper} {Q : Exit → Act → World → Prop} (hL : ¬ LetsOut Q) (hnd : ∀ (i : Nat) (o : Oper), ops[i]? = some o → ∀ c, o.op ≠ .defer c) :
  ∀ (fuel : Nat) (listed : Array Bool) (a : Act) (w : World), wpAny P md ops Q fuel listed a w → wpAnyIn (Fence.wide.inRound l) n P md ops Q fuel listed a w
 | 0, _, _, _, h => h
 | fuel + 1, listed, a, w, h => by
  refine ⟨h.1, fun i hi => ?_⟩
  have hop := h.2 i hi
  unfold wpOp at hop
  unfold wpOpIn
  cases ho : ops[i]? with
  | none =>
   rw [ho] at hop
   exact anyIn_of hL hnd fuel _ _ _ hop
  | some o =>
   rw [ho] at hop
   dsimp only at hop ⊢
   by_cases hw : Region.wanted o (yielded ops a.tmps) = true
   ·rw [if_pos hw] at hop ⊢
    rcases hop with hop | hop
    ·exact operIn_of (hnd i o ho) (fun a w q => anyIn_of hL hnd fuel _ a w q) hop
    ·exact absurd hop.2 hL
   ·rw [if_neg hw] at hop ⊢
    exact ⟨fun f _ => trivial, anyIn_of hL hnd fuel _ _ _ hop⟩
theorem regionIn_any {l n : Nat} {P : Program} {id : Nat} {ops : Array Oper} {Q : Exit → Act → World → Prop} {a : Act} {w : World} (hL : ¬ LetsOut Q) (hnd : ops.all (fun o => match o.op with | .defer _ => false | _ => true) = true) (hm : P.follows .mixedOrders = true)
  (h : wpAny P .any ops Q ops.size (Array.replicate ops.size false) a w.drew) : (Code.region id ops true).wpIn (Fence.wide.inRound l) n P Q a w := by
 refine wpIn_region_any hm (anyIn_of hL ?_ _ _ _ _ h)
 intro i o ho c hc
 have := Array.all_eq_true.1 hnd i (Array.getElem?_eq_some_iff.1 ho).1
 rw [(Array.getElem?_eq_some_iff.1 ho).2] at this
 simp [hc] at this
end Go.Proofs.YtmlcmkoefelolaaGreat

namespace Go.Proofs.YtmlcmkoefelolaaGreat
open Go.RowKit

section
variable {P : Program} {ops : Array Oper} {Q : Exit → Act → World → Prop} {md : Region.Mode} {S : World → Prop} {T : Nat → Bool}

/-- Whatever comes up next; behind those of T the world is as S says. -/
def AnyT (P : Program) (md : Region.Mode) (ops : Array Oper) (Q : Exit → Act → World → Prop) (S : World → Prop) (T : Nat → Bool) : Nat → Array Bool → Act → World → Prop
 | 0, done, a, w => Region.ready md ops done = [] ∧ Q .normal a w
 | n + 1, done, a, w => (Region.ready md ops done = [] → Q .normal a w) ∧ ∀ j, j ∈ Region.ready md ops done → wpOp P ops Q j (fun a1 w1 => (T j = true → S w1) ∧ AnyT P md ops Q S T n (done.setIfInBounds j true) a1 w1) a w

/-- Once all of T have come up, nothing more is asked. -/
theorem AnyT.of_any : ∀ (n : Nat) (done : Array Bool) (a : Act) (w : World), (∀ j, T j = true → done.getD j true = true) → wpAny P md ops Q n done a w → AnyT P md ops Q S T n done a w
 | 0, _, _, _, _, h => h
 | n + 1, done, a, w, hT, h => by
  refine ⟨h.1, fun j hj => wpOp_mono (fun a1 w1 h1 => ⟨fun ht => ?_, AnyT.of_any n _ a1 w1 (fun k hk => ?_) h1⟩) (h.2 j hj)⟩
  ·have := (mem_ready.1 hj).1
   rw [hT j ht] at this
   cases this
  ·by_cases e : j = k
   ·subst e
    by_cases hlt : j < done.size <;> simp [hlt]
   ·rw [getD_set_ne true e]
    exact hT k hk

theorem AnyT.over (n : Nat) (done : Array Bool) (a : Act) (w : World) (hT : (List.range done.size).all (fun j => !T j || done.getD j true) = true) (h : wpAny P md ops Q n done a w) : AnyT P md ops Q S T n done a w := by
 refine AnyT.of_any n done a w (fun j hj => ?_) h
 by_cases hlt : j < done.size
 ·have := List.all_eq_true.1 hT j (by simpa using hlt)
  rw [hj] at this
  simpa using this
 ·simp [hlt]

/-- Number i is taken first: T are those that might come ahead of it. -/
theorem any_firstT {i : Nat} {oi : Oper} {v : Value} (hi : ops[i]? = some oi) (hsel : ∀ (j : Nat) (o : Oper) cs b, ops[j]? = some o → o.op ≠ .select cs b) (hQ : ∀ c a w, Q (.panic c) (a.put oi.dst v) w → Q (.panic c) a w)
  (hT : ∀ (j : Nat) (oj : Oper), ops[j]? = some oj → j ≠ i → (∀ e ∈ oj.after, Region.binds md e = true → e.on ≠ i) → T j = true) (n : Nat) :
  ∀ (done : Array Bool) (a : Act) (w : World), (∀ j oj, ops[j]? = some oj → j ≠ i → done.getD j true = false → (∀ e ∈ oj.after, Region.binds md e = true → e.on ≠ i) → oi.apart ops oj = true) →
   i ∈ Region.ready md ops done → YieldsIf P ops S oi v a → S w → AnyT P md ops Q S T n (done.setIfInBounds i true) (a.put oi.dst v) w → wpAny P md ops Q (n + 1) done a w := by
 induction n with
 | zero =>
  intro done a w _ hr hy hS H
  refine ⟨fun q => absurd (q ▸ hr) (by simp), fun j hj => ?_⟩
  rcases Decidable.em (j = i) with rfl | hji
  ·exact hy.wpOp hi hS H
  ·have hq := ready_mono hj hji
   rw [H.1] at hq
   exact absurd hq (by simp)
 | succ n ih =>
  intro done a w hfree hr hy hS H
  refine ⟨fun q => absurd (q ▸ hr) (by simp), fun j hj => ?_⟩
  rcases Decidable.em (j = i) with rfl | hji
  ·refine hy.wpOp hi hS ?_
   have strip : ∀ (m : Nat) (d : Array Bool) (a : Act) (w : World), AnyT P md ops Q S T m d a w → wpAny P md ops Q m d a w := by
    intro m
    induction m with
    | zero => intro d a w h; exact h
    | succ m im => intro d a w h; exact ⟨h.1, fun k hk => wpOp_mono (fun a1 w1 h1 => im _ _ _ h1.2) (h.2 k hk)⟩
   exact strip _ _ _ _ H
  ·obtain ⟨hun, oj, hoj, hall⟩ := mem_ready.1 hj
   have hno : ∀ e ∈ oj.after, Region.binds md e = true → e.on ≠ i := by
    intro e he hb q
    have h1 := hall e he hb
    have h0 := (mem_ready.1 hr).1
    rw [q] at h1
    by_cases hlt : i < done.size
    ·simp [hlt] at h0 h1
     rw [h0] at h1
     cases h1
    ·simp [hlt] at h0
   have step := wpOp_putIf hoj (hfree j oj hoj hji hun hno) (fun cs b => hsel i oi cs b hi) (fun cs b => hsel j oj cs b hoj) hQ hy (H.2 j (ready_mono hj hji))
   refine wpOp_mono (fun a1 w1 h1 => ?_) step
   refine ih (done.setIfInBounds j true) a1 w1 (fun k ok hk hki hu hn => hfree k ok hk hki ?_ hn) (ready_mono hr (Ne.symm hji)) h1.1 (h1.2.1 (hT j oj hoj hji hno)) ?_
   ·rcases Decidable.em (j = k) with rfl | hjk
    ·exact hun
    ·rwa [getD_set_ne true hjk] at hu
   ·have e : (done.setIfInBounds j true).setIfInBounds i true = (done.setIfInBounds i true).setIfInBounds j true := Array.setIfInBounds_comm _ _ hji
    rw [e]
    exact h1.2.2

/-- Those that wait for number i, as a Bool. -/
def waits (md : Region.Mode) (ops : Array Oper) (i : Nat) (j : Nat) : Bool := match ops[j]? with
 | some o => o.after.any (fun e => Region.binds md e && (e.on == i))
 | none => false
theorem any_takeT {i : Nat} {oi : Oper} {v : Value} {n : Nat} {done : Array Bool} {a : Act} {w : World} (S : World → Prop) (hi : ops[i]? = some oi) (hs : Region.noSelect ops = true) (hf : Region.free md ops done i = true) (hr : (Region.ready md ops done).contains i = true)
  (hQ : ∀ c a w, Q (.panic c) (a.put oi.dst v) w → Q (.panic c) a w) (hy : YieldsIf P ops S oi v a) (hS : S w)
  (h : AnyT P md ops Q S (fun j => !waits md ops i j) n (done.setIfInBounds i true) (a.put oi.dst v) w) : wpAny P md ops Q (n + 1) done a w := by
 refine any_firstT hi (Region.noSelect_spec hs) hQ (fun j oj hj hji hno => ?_) n done a w (Region.free_spec hi hf) (by simpa using hr) hy hS h
 unfold waits
 rw [hj]
 simp only [Bool.not_eq_true', Array.any_eq_false']
 intro e he q
 simp only [Bool.and_eq_true, beq_iff_eq] at q
 exact hno e he q.1 q.2

def AllT (P : Program) (md : Region.Mode) (ops : Array Oper) (Q : Exit → Act → World → Prop) (S : World → Prop) (T : Nat → Bool) (n : Nat) (done : Array Bool) (a : Act) (w : World) (js : List Nat) : Prop :=
 ∀ j, j ∈ js → wpOp P ops Q j (fun a1 w1 => (T j = true → S w1) ∧ AnyT P md ops Q S T n (done.setIfInBounds j true) a1 w1) a w
theorem AllT.nil {n : Nat} {done : Array Bool} {a : Act} {w : World} : AllT P md ops Q S T n done a w [] := fun _ h => absurd h (by simp)
theorem AllT.cons {n : Nat} {done : Array Bool} {a : Act} {w : World} {j : Nat} {o : Oper} {js : List Nat} (ho : ops[j]? = some o)
  (h : ∀ K : Act → World → Prop, (∀ a1 w1, S w1 → AnyT P md ops Q S T n (done.setIfInBounds j true) a1 w1 → K a1 w1) → if Region.wanted o (yielded ops a.tmps) = true then Oper.wp P o a w K Q else K (a.put o.dst undef) w)
  (hs : AllT P md ops Q S T n done a w js) : AllT P md ops Q S T n done a w (j :: js) := by
 intro k hk
 rcases List.mem_cons.1 hk with rfl | hk
 ·exact wpOp_step ho (fun K hK => h K (fun a1 w1 q1 q2 => hK a1 w1 ⟨fun _ => q1, q2⟩))
 ·exact hs k hk
theorem anyT_ready {n : Nat} {done : Array Bool} {a : Act} {w : World} {js : List Nat} (hr : Region.ready md ops done = js) (hne : js ≠ []) (h : AllT P md ops Q S T n done a w js) : AnyT P md ops Q S T (n + 1) done a w :=
 ⟨fun q => absurd (hr.symm.trans q) hne, fun j hj => h j (hr ▸ hj)⟩
end
end Go.Proofs.YtmlcmkoefelolaaGreat

namespace Go.Proofs.YtmlcmkoefelolaaGreat
open Go.RowKit Go.Shelf
set_option linter.unusedVariables false

theorem info_rrZ : (Tryz.prog.info? 52).map (fun i => (i.zero, i.size, i.bytes)) = some (some (.agg #[.slice none 0 0, .int .i64 0, .int .i64 0, .int .i64 0, .slice none 0 0, .slice none 0 0, .slice none 0 0]), 7, 120) := by kernel_rfl
def cellsV {w : World} (x : RecV w) : Array Value := #[x.1.1.1, .int .i64 x.1.2.type, .int .i64 x.1.2.ttl, .int .i64 x.1.2.addr, x.1.1.2.1, x.1.1.2.2.1, x.1.1.2.2.2]
/-- What stands between two rounds. -/
def GotZ (w : World) (Z : Nat) (vo : Value) (o : List (List Int)) (w0 : World) (pre : List (RecV w0)) (W : World) : Prop :=
 (∃ vr, W.heap[Z]? = some (.cells #[vo, vr] 34) ∧ RowO (Z + 1) W.heap.size 52 44 5 3 W vr (pre.map (·.1.2)) ∧ OwnN (w.heap.size + 2) Z 44 5 W vo o ∧ W.heap[w.heap.size + 1]? = some (.cells #[.slice none 0 0, .slice none 0 0] 34) ∧ w.heap.size + 2 ≤ Z) ∧ Below w.heap.size w W
theorem gotZ_own (w : World) (Z : Nat) (vo : Value) (o : List (List Int)) (w0 : World) (B : Nat) (hB : w.heap.size ≤ B) : OwnFrom B (GotZ w Z vo o w0) := by
 intro s W W' row ⟨⟨vr, h1, h2, h3, h4, h5⟩, hb⟩ hg hr
 have hk := keptC_of hg (fun r e => (hr r e).2)
 exact ⟨⟨vr, hk _ _ _ h1, (h2.keptC hk).wide (Nat.le_refl _) hg.size, h3.keptC hk, hk _ _ _ h4, h5⟩, hb.grown hg hb.size (fun k e => by have := (hr k e).1; omega)⟩
theorem keepsFrom_of {B Z : Nat} {W Wd w2 w3 w4 : World} {v4 : Value} {row : Option Nat} {c : Array Value} {t : TypeId} {j : Nat} (h1 : Below W.heap.size W Wd) (h2 : Below Wd.heap.size Wd w2) (h3 : Below w2.heap.size w2 w3) (h4 : w3.grownBy w4 row) (hr : ∀ k o, w3.heap[k]? = some o → o.isCells = false → row ≠ some k) (hZ : w4.heap[Z]? = some (.cells c t)) : KeepsFrom B W (w4.setCell ⟨Z, j, none⟩ v4) := by
 have zs := (grown_setCell w4 ⟨Z, j, none⟩ v4).size
 have z1 := h1.size
 have z2 := h2.size
 have z3 := h3.size
 have z4 := h4.size
 refine ⟨by omega, fun k o hB hk ho => ?_⟩
 have q3 := block_kept h3 (block_kept h2 (block_kept h1 hk))
 have q4 := block_grown h4 q3 (hr k o q3 ho)
 refine block_grown (grown_setCell w4 ⟨Z, j, none⟩ v4) q4 ?_
 intro e
 simp only [Option.some.injEq] at e
 subst e
 rw [hZ] at q4
 cases q4
 cases ho

set_option maxHeartbeats 8000000 in
set_option maxRecDepth 100000 in
theorem zoneOf_in {w0 w : World} (hw0 : Below w0.heap.size w0 w) {vo : Value} {o : List (List Int)} (ho : HasL w vo o) (ho1 : o.length ≤ 6) (ho2 : ∀ k, k < o.length → (o.getD k []).length ≤ 15) {rs : List Rec} (hlen : rs.length ≤ 1000) {gf : Nat} {lb : Array Value}
  (eg : ∀ args w, (callFunc gf args).run Tryz.prog w = .ok (.enter gf args) w)
  (hseq : SeqStopsK Fence.wide 4 Tryz.prog gf lb (fun x : RecV w0 => encV x) (Below w0.heap.size) (fun xs => xs.map (·.1.2) = rs) (fun _ => True) rs.length w) :
  CallsIn Fence.wide 5 Tryz.prog 69 #[.agg #[vo], .func (.func gf) #[] lb] w fun e w' => ∃ uo ur, e = .returned (.agg #[uo, ur]) ∧ OwnZ w.heap.size w'.heap.size w' uo ur o rs ∧ Below w.heap.size w w' := by
 obtain ⟨oa, oc, rfl, _⟩ := ho.form
 obtain ⟨hsz, k0, r0⟩ := box2 w (.cells #[.slice oa o.length oc] 32) #[.slice none 0 0, .slice none 0 0] 34
 have b0 := below2 w (.cells #[.slice oa o.length oc] 32) (.cells #[.slice none 0 0, .slice none 0 0] 34)
 have HC := hide (copyName_has (ho.below b0) ho1 ho2)
 have KR := hide r0
 have zz := block_lt r0
 have c0 := block_one k0
 clear hsz k0 r0 ho ho1 ho2
 refine callsIn_of_wp_marks Tryz.func69 rfl trivial ?_ rfl
 simp only [Tryz.ntmps69, List.size_toArray, List.length_cons, List.length_nil, Nat.reduceAdd, Nat.reduceSub, Array.replicate_succ, Array.replicate_zero, List.push_toArray, List.append_toArray, List.nil_append, List.cons_append]
 gi_wp2_with (refine ⟨trivial, ?_⟩; gi_at_call 106; refine (callsIn_wide.2 (unhide HC)).mono ?_; rintro e w1 ⟨v1, rfl, o1, b1⟩; obtain ⟨p1, q1, rfl, _⟩ := o1.hasL.form)
 have bz := below_alloc (w := w1) (.cells #[.slice p1 o.length q1, .slice none 0 0] 34)
 have kz := heap_alloc_new w1 (.cells #[.slice p1 o.length q1, .slice none 0 0] 34)
 have kr := block_kept bz (block_kept b1 (unhide KR))
 have hB0 := below_next (below_next b0 b1) bz
 have ON := (o1.here.wide (C' := w.heap.size + 2) (E' := w1.heap.size) (by omega) (Nat.le_refl _)).below bz
 have z1 := b1.size
 have zk := block_lt kz
 have hz2 : w.heap.size + 2 ≤ w1.heap.size := by omega
 clear HC KR b0 b1 o1 c0 bz
 generalize hW0 : w1.alloc (.cells #[.slice p1 o.length q1, .slice none 0 0] 34) = W0 at *
 clear hW0
 refine wpIn_rangeFunc_ownH rfl (by omega) (gf := gf) (lb := lb) rfl trivial eg hseq (fun h k => h.trans k) (belowK_b (Nat.le_trans hw0.size hB0.size)) hB0 (fun _ => rfl)
  (GotZ w w1.heap.size (.slice p1 o.length q1) o w0) (fun _ _ _ => False) (gotZ_own w w1.heap.size _ o w0 _ hB0.size) (fun _ _ _ _ _ h _ _ => h)
  ⟨⟨.slice none 0 0, kz, RowO.nil _ _ _ _ _ _ _, ON, kr, hz2⟩, hB0⟩
  (fun x a' W => ∃ Bx, w1.heap.size < Bx ∧ W.heap[Bx]? = some (.cells (cellsV x) 52) ∧ a' = { tmps := #[.agg #[.slice oa o.length oc], .func (.func gf) #[] lb, .pointer (some ⟨w.heap.size, 0, none⟩), undef, .pointer (some ⟨w.heap.size + 1, 0, none⟩), .pointer (some ⟨w1.heap.size, 0, none⟩), .pointer (some ⟨Bx, 0, none⟩), .agg #[.slice oa o.length oc], .agg #[.slice p1 o.length q1], .agg #[.slice p1 o.length q1, .slice none 0 0], .func (.func gf) #[] lb, .agg (cellsV x), undef, undef, undef, undef, undef, undef, undef, undef], defers := [] })
  (fun x a' _ W W' row ⟨Bx, q1, q2, q3⟩ hg hr => ⟨Bx, q1, keptC_of hg (fun r e => (hr r e).2) _ _ _ q2, q3⟩) ?assign ?body ?done ?stop
 case assign =>
  rintro lr pre x W K hi hK
  have hsem := Oper.semAt_some lr
  obtain ⟨⟨⟨vn, vt, vx, vi⟩, r⟩, hRR⟩ := x
  have hR := hRR.1
  have hS := hRR.2
  dsimp only at hR hS hRR
  obtain ⟨na, nc, rfl, _⟩ := hR.name.form
  obtain ⟨ta, tc, rfl, _⟩ := hR.to.form
  obtain ⟨xa, xc, rfl, _⟩ := hR.text.form
  obtain ⟨ia, ic, rfl, _⟩ := hR.nums.form
  have zW := block_lt hi.1.choose_spec.1
  have ba := below_alloc (w := W) (.cells #[.slice na r.name.length nc, .int .i64 r.type, .int .i64 r.ttl, .int .i64 r.addr, .slice ta r.to.length tc, .slice xa r.text.length xc, .slice ia r.nums.length ic] 52)
  have hi2 := gotZ_own w w1.heap.size _ o w0 w.heap.size (Nat.le_refl _) pre W _ none hi (World.grownBy_alloc W (.cells #[.slice na r.name.length nc, .int .i64 r.type, .int .i64 r.ttl, .int .i64 r.addr, .slice ta r.to.length tc, .slice xa r.text.length xc, .slice ia r.nums.length ic] 52) none) (fun r e => by cases e)
  have kx := heap_alloc_new W (.cells #[.slice na r.name.length nc, .int .i64 r.type, .int .i64 r.ttl, .int .i64 r.addr, .slice ta r.to.length tc, .slice xa r.text.length xc, .slice ia r.nums.length ic] 52)
  have HK := hide hK
  have H2 := hide hi2
  have KX := hide kx
  have BA := hide ba
  clear hK hi2 kx ba hi
  unfold encV
  gi_wp2
  exact unhide HK _ _ ((KeepsOthers.alloc _ _).from _) ((unhide BA).mono (Nat.le_trans hw0.size (by omega))) (unhide H2) ⟨W.heap.size, zW, unhide KX, rfl⟩
 case body =>
  rintro lr pre x a' W hl ⟨rr, hrr⟩ ⟨⟨vr, kZ, hrow, hoN, kR, hz3⟩, hB⟩ ⟨Bx, hBx, kX, rfl⟩ hlt
  have hsem := Oper.semAt_some lr
  obtain ⟨⟨⟨vn, vt, vx, vi⟩, r⟩, hRR⟩ := x
  have hR := hRR.1
  have hS := hRR.2
  dsimp only at hR hS hRR
  obtain ⟨na, nc, rfl, _⟩ := hR.name.form
  obtain ⟨ta, tc, rfl, _⟩ := hR.to.form
  obtain ⟨xa, xc, rfl, _⟩ := hR.text.form
  obtain ⟨ia, ic, rfl, _⟩ := hR.nums.form
  obtain ⟨ra, rc, rfl, _⟩ := hrow.form
  have hpl : (pre.map (·.1.2)).length = pre.length := List.length_map _
  rw [hpl] at kZ hrow
  replace kX : W.heap[Bx]? = some (.cells #[.slice na r.name.length nc, .int .i64 r.type, .int .i64 r.ttl, .int .i64 r.addr, .slice ta r.to.length tc, .slice xa r.text.length xc, .slice ia r.nums.length ic] 52) := kX
  have hlp : pre.length ≤ 1000 := by omega
  have bd := below_drew (w := W)
  have KZ := hide (block_kept bd kZ)
  have KX := hide (block_kept bd kX)
  have KRR := hide (block_kept bd kR)
  have ROW := hide (hrow.below bd)
  have OO := hide (hoN.below bd)
  have BB := hide (below_next hB bd)
  have zB := hB.size
  have zW := block_lt kZ
  have HR := hide (hR.below (below_next (below_next hw0 hB) bd))
  have HSS := hide hS
  have zd := bd.size
  have BD := hide bd
  have hW0s := hw0.size
  clear kZ kX kR hrow hoN hB hR hS bd kz kr ON hB0 hrr
  unfold cellsV
  dsimp only
  gi_wp2
  refine regionIn_any (by rintro ⟨a', w', hq⟩; exact hq) (by kernel_rfl) (by kernel_rfl) ?_
  show wpAny _ _ _ _ _ _ _ W.drew
  generalize W.drew = Wd at *
  have cZ : Wd.cell? ⟨w1.heap.size, 1, none⟩ = some (.slice ra pre.length rc) := block_cell (unhide KZ) 1
  obtain ⟨d0, d1, d2, d3, d4, d5, d6⟩ := cells7 (unhide KX)
  refine wpAny_take (i := 0) (oi := ⟨some 12, Op.fieldAddr 34 (.tmp 5) 1, 0, "l05_zone.go:154", #[], none⟩) (v := .pointer (some ⟨w1.heap.size, 1, none⟩)) rfl (by kernel_rfl) (by kernel_rfl) (by kernel_rfl) (fun _ _ _ h => h) (Or.inl ⟨by rfl, fun w => by go_simp⟩) ?_
  try simp only [Act.put, List.setIfInBounds_toArray, List.set_cons_zero, List.set_cons_succ]
  refine any_takeT (i := 1) (oi := ⟨some 13, Op.load 30 (.tmp 12), 30, "l05_zone.go:154", #[⟨0, .data⟩], none⟩) (v := .slice ra pre.length rc) (fun w' => w'.cell? ⟨w1.heap.size, 1, none⟩ = some (.slice ra pre.length rc)) rfl (by kernel_rfl) (by kernel_rfl) (by kernel_rfl) (fun _ _ _ h => h) (Or.inl ⟨by rfl, fun w' hw' => by go_simp⟩) cZ ?_
  try simp only [Act.put, List.setIfInBounds_toArray, List.set_cons_zero, List.set_cons_succ]
  refine anyT_ready (js := [2]) (by kernel_rfl) (by simp) (AllT.cons (o := ⟨some 14, Op.load 52 (.tmp 6), 52, "l05_zone.go:154", #[], none⟩) rfl (fun K hK => ?_) AllT.nil)
  have HK := hide hK
  clear hK
  go_simp
  refine unhide HK _ _ cZ ?_
  clear HK K d0 d1 d2 d3 d4 d5 d6
  try simp only [Act.put, List.setIfInBounds_toArray, List.set_cons_zero, List.set_cons_succ]
  refine anyT_ready (js := [3]) (by kernel_rfl) (by simp) (AllT.cons (o := ⟨some 15, Op.call { callee := Callee.value (Operand.func 97), args := #[Operand.tmp 14], argTypes := #[52] }, 52, "l05_zone.go:154", #[⟨2, .data⟩], none⟩) rfl (fun K hK => ?_) AllT.nil)
  have HK := hide hK
  clear hK
  go_simp
  refine (copyRr_own (unhide HR) (unhide HSS)).mono ?_
  rintro e w2 ⟨un, ut, ux, ui, rfl, oR, b2⟩
  obtain ⟨pa, pc, rfl, _⟩ := oR.hasR.name.form
  obtain ⟨qa, qc, rfl, _⟩ := oR.hasR.to.form
  obtain ⟨ya, yc, rfl, _⟩ := oR.hasR.text.form
  obtain ⟨za, zc, rfl, _⟩ := oR.hasR.nums.form
  have OR := hide oR
  have B2 := hide b2
  have z2 := b2.size
  have cZ2 : w2.cell? ⟨w1.heap.size, 1, none⟩ = some (.slice ra pre.length rc) := block_cell (block_kept b2 (unhide KZ)) 1
  clear oR b2
  go_simp
  refine unhide HK _ _ cZ2 ?_
  clear HK K cZ cZ2
  try simp only [Act.put, List.setIfInBounds_toArray, List.set_cons_zero, List.set_cons_succ]
  have b3 := below_alloc (w := w2) (.cells #[.slice pa r.name.length pc, .int .i64 r.type, .int .i64 r.ttl, .int .i64 r.addr, .slice qa r.to.length qc, .slice ya r.text.length yc, .slice za r.nums.length zc] 52)
  have g3 := heap_alloc_new w2 (.cells #[.slice pa r.name.length pc, .int .i64 r.type, .int .i64 r.ttl, .int .i64 r.addr, .slice qa r.to.length qc, .slice ya r.text.length yc, .slice za r.nums.length zc] 52)
  have k3 := block_kept b3 (block_kept (unhide B2) (unhide KZ))
  have row3 := ((unhide ROW).below (unhide B2)).below b3
  have OR3 := hide ((unhide OR).below b3)
  have on3 := ((unhide OO).below (unhide B2)).below b3
  have kr3 := block_kept b3 (block_kept (unhide B2) (unhide KRR))
  have bb3 := below_next (below_next (unhide BB) (unhide B2)) b3
  have z3 := b3.size
  have B3 := hide b3
  have G3 := hide g3
  have K3 := hide k3
  have ROW3 := hide row3
  have ON3 := hide on3
  have KR3 := hide kr3
  have BB3 := hide bb3
  have cZ3 : (w2.alloc (.cells #[.slice pa r.name.length pc, .int .i64 r.type, .int .i64 r.ttl, .int .i64 r.addr, .slice qa r.to.length qc, .slice ya r.text.length yc, .slice za r.nums.length zc] 52)).cell? ⟨w1.heap.size, 1, none⟩ = some (.slice ra pre.length rc) := block_cell k3 1
  clear b3 g3 k3 row3 on3 kr3 bb3 ROW OO KRR KX HR HSS OR
  refine anyT_ready (js := [4]) (by kernel_rfl) (by simp) (AllT.cons (o := ⟨some 16, Op.buildSlice 30 1 #[(0, Operand.tmp 15)], 30, "l05_zone.go:154", #[⟨3, .data⟩], none⟩) rfl (fun K hK => ?_) AllT.nil)
  have HK := hide hK
  clear hK
  go_simp
  refine unhide HK _ _ cZ3 ?_
  clear HK K cZ3
  try simp only [Act.put, List.setIfInBounds_toArray, List.set_cons_zero, List.set_cons_succ]
  generalize w2.alloc (.cells #[.slice pa r.name.length pc, .int .i64 r.type, .int .i64 r.ttl, .int .i64 r.addr, .slice qa r.to.length qc, .slice ya r.text.length yc, .slice za r.nums.length zc] 52) = w3 at *
  refine AnyT.over _ _ _ _ (by kernel_rfl) ?_
  refine wpAny_ready (rs := [5]) (by kernel_rfl) (by simp) (AllReady.cons (o := ⟨some 17, Op.call { callee := Callee.builtin Builtin.append, args := #[Operand.tmp 13, Operand.tmp 16], argTypes := #[30, 30] }, 30, "l05_zone.go:154", #[⟨1, .data⟩, ⟨4, .data⟩, ⟨3, .chain⟩], none⟩) rfl (fun K hK => ?_) AllReady.nil)
  have HK := hide hK
  clear hK
  obtain ⟨xs3, f3, g3, hx3, hq3, hh3⟩ := unhide ROW3
  rw [hpl] at hx3
  refine step_append_rec rfl (.tmp 13) (.tmp 16) 30 52 rfl Tryz.underlying30 _ info_rrZ rfl (w1.heap.size + 1) (.slice ra pre.length rc) pre.length (by simp [Act.eval]) w2.heap.size [.slice pa r.name.length pc, .int .i64 r.type, .int .i64 r.ttl, .int .i64 r.addr, .slice qa r.to.length qc, .slice ya r.text.length yc, .slice za r.nums.length zc] (by simp [Act.eval]) ⟨xs3, hx3⟩ (unhide G3) rfl (by simp [Value.oneCell']) (by omega) (by omega) ?_
  intro v4 w4 ho4 g4 hw4
  have row4 := RowO.snoc (unhide ROW3) (C := Wd.heap.size) (D := w2.heap.size) zd z3 (unhide OR3) (by omega) g4 hw4 (by rw [hpl]; exact ho4)
  have u4 : Outside (w1.heap.size + 1) w3.heap.size w3 w4 := outside_grown g4 (fun k hk => World.ownsRow.lt hx3 k hk)
  have k4 := block_grown g4 (unhide K3) (row_type hx3 (unhide K3) (by decide))
  have kf := keepsFrom_of (B := W0.heap.size) (j := 1) (v4 := v4) (unhide BD) (unhide B2) (unhide B3) g4 (fun k o h1 h2 => row_notC hx3 h1 h2) k4
  have on4 := (unhide ON3).outside u4 (.inl (by omega))
  have kr4 := u4.kept (unhide KR3) (by omega)
  have u5 := outside_set w4 w1.heap.size 1 v4
  have z4 := u4.size
  have z5 := u5.size
  have bel : Below w0.heap.size W (w4.setCell ⟨w1.heap.size, 1, none⟩ v4) := u5.belowAt (u4.belowAt (((unhide BD).mono (by omega)).trans (((unhide B2).mono (by omega)).trans ((unhide B3).mono (by omega)))) (by omega) (by omega)) (by omega) (by omega)
  have bb5 : Below w.heap.size w (w4.setCell ⟨w1.heap.size, 1, none⟩ v4) := u5.below (u4.below (unhide BB3) (by omega)) (by omega)
  have FIN : Hid (GotZ w w1.heap.size (.slice p1 o.length q1) o w0 (pre ++ [⟨((.slice na r.name.length nc, .slice ta r.to.length tc, .slice xa r.text.length xc, .slice ia r.nums.length ic), r), hRR⟩]) (w4.setCell ⟨w1.heap.size, 1, none⟩ v4)) := ⟨⟨v4, block_setAt k4 1 v4, by rw [List.map_append]; exact (row4.outside u5 (.inr (Nat.le_refl _))).wide (Nat.le_refl _) z5, on4.outside u5 (.inl (Nat.le_refl _)), u5.kept kr4 (by omega), hz3⟩, bb5⟩
  have KF := hide kf
  have BEL := hide bel
  have c4 := block_cell k4 1
  have f4 := block_frozen k4 1
  simp only [List.getElem?_toArray, List.getElem?_cons_zero, List.getElem?_cons_succ] at c4
  obtain ⟨v4a, v4c, hv4, _⟩ := row4.form
  rw [List.length_append, hpl] at hv4
  replace hv4 : v4 = .slice v4a (pre.length + 1) v4c := hv4
  subst hv4
  clear row4 u4 k4 kf on4 kr4 u5 bel bb5 ho4 g4 hw4 hx3 hq3 hh3 ROW3 OR3 ON3 KR3 BB3 G3 K3 B2 B3 BD BB
  refine unhide HK _ _ ?_
  clear HK K
  try simp only [Act.put, List.setIfInBounds_toArray, List.set_cons_zero, List.set_cons_succ]
  refine wpAny_take (i := 6) (oi := ⟨some 18, Op.fieldAddr 34 (.tmp 5) 1, 0, "l05_zone.go:154", #[⟨0, .phase⟩, ⟨1, .phase⟩, ⟨2, .phase⟩, ⟨3, .phase⟩, ⟨4, .phase⟩, ⟨5, .phase⟩], none⟩) (v := .pointer (some ⟨w1.heap.size, 1, none⟩)) rfl (by kernel_rfl) (by kernel_rfl) (by kernel_rfl) (fun _ _ _ h => h) (Or.inl ⟨by rfl, fun w => by go_simp⟩) ?_
  try simp only [Act.put, List.setIfInBounds_toArray, List.set_cons_zero, List.set_cons_succ]
  refine wpAny_ready (rs := [7]) (by kernel_rfl) (by simp) (AllReady.cons (o := ⟨none, Op.store 30 (.tmp 18) (.tmp 17), 0, "l05_zone.go:154", #[⟨6, .data⟩, ⟨5, .data⟩, ⟨5, .chain⟩, ⟨0, .phase⟩, ⟨1, .phase⟩, ⟨2, .phase⟩, ⟨3, .phase⟩, ⟨4, .phase⟩, ⟨5, .phase⟩], none⟩) rfl (fun K hK => ?_) AllReady.nil)
  have HK := hide hK
  clear hK
  go_simp
  refine unhide HK _ _ ?_
  clear HK K
  refine wpAny_done (by kernel_rfl) ?_ _
  exact ⟨unhide KF, unhide BEL, unhide FIN⟩
 case done =>
  rintro D xs W hD hS ⟨⟨vr, kZ, hrow, hoN, kR, hz3⟩, hB⟩ hK
  rw [hS] at hrow
  obtain ⟨ra, rc, rfl, _⟩ := hrow.form
  obtain ⟨e0, e1⟩ : W.cell? ⟨w1.heap.size, 0, none⟩ = some (.slice p1 o.length q1) ∧ W.cell? ⟨w1.heap.size, 1, none⟩ = some (.slice ra rs.length rc) := ⟨block_cell kZ 0, block_cell kZ 1⟩
  obtain ⟨g0, g1⟩ : W.cell? ⟨w.heap.size + 1, 0, none⟩ = some (.slice none 0 0) ∧ W.cell? ⟨w.heap.size + 1, 1, none⟩ = some (.slice none 0 0) := ⟨block_cell kR 0, block_cell kR 1⟩
  have h0 := block_frozen kR 0
  have h1 := block_frozen kR 1
  have KRR := hide kR
  have ROW := hide hrow
  have OO := hide hoN
  have BB := hide hB
  have HKK := hide hK
  have zW := block_lt kZ
  have zD := block_lt hK
  clear kZ kR hrow hoN hB hK kz kr ON
  gi_wp2
  have kf : ((W.setCell ⟨w.heap.size + 1, 0, none⟩ (.slice p1 o.length q1)).setCell ⟨w.heap.size + 1, 1, none⟩ (.slice ra rs.length rc)).heap[w.heap.size + 1]? = some (.cells #[.slice p1 o.length q1, .slice ra rs.length rc] 34) := block_setAt (block_setAt (unhide KRR) 0 _) 1 _
  have u5 := (outside_set W (w.heap.size + 1) 0 (.slice p1 o.length q1)).trans (outside_set _ (w.heap.size + 1) 1 (.slice ra rs.length rc))
  have sD := ((KeepsOthers.setCell W ⟨w.heap.size + 1, 0, none⟩ (.slice p1 o.length q1)).trans (KeepsOthers.setCell _ ⟨w.heap.size + 1, 1, none⟩ (.slice ra rs.length rc))).same D _ (unhide HKK) rfl
  have row5 := (unhide ROW).outside u5 (.inr (by omega))
  have on5 := (unhide OO).outside u5 (.inr (by omega))
  have bb5 := u5.below (unhide BB) (by omega)
  have z5 := u5.size
  generalize (W.setCell ⟨w.heap.size + 1, 0, none⟩ (.slice p1 o.length q1)).setCell ⟨w.heap.size + 1, 1, none⟩ (.slice ra rs.length rc) = w5 at *
  refine ⟨by simp, .inl ⟨_, _, rfl, run_takeDeferred sD, ?_⟩⟩
  have hkk := keptC_of (grownBy_putObj' w5 D (.deferred none)) (fun r e => by cases e; exact ⟨_, sD, rfl⟩)
  have zp := (grownBy_putObj' w5 D (.deferred none)).size
  exact ⟨_, results_cell_row rfl _ _ (w.heap.size + 1) 34 #[.slice p1 o.length q1, .slice ra rs.length rc] (0, 0) _ rfl (hkk _ _ _ kf) Tryz.underlying34 rfl (by kernel_rfl), _, _, rfl, ⟨w1.heap.size, by omega, by omega, (on5.keptC hkk).wide (by omega) (Nat.le_refl _), (row5.keptC hkk).wide (by omega) (by omega)⟩, bb5.trans (belowK_b (w := w) (Nat.le_refl _) w5 D _ _ (by omega) sD rfl rfl)⟩
 case stop =>
  rintro D c pre W _ _ h _
  exact h.elim
end Go.Proofs.YtmlcmkoefelolaaGreat

namespace Go.Proofs.YtmlcmkoefelolaaGreat
open Go.RowKit
set_option linter.unusedVariables false

def selT (t : Int) (r : Rec) : Bool := (t == 255) || (r.type == t)
theorem byteL_of {n : List (List Int)} (h : nameOk n = true) : ByteL n := fun l hl x hx => by
 have := sign_of h l hl x hx
 omega
theorem page_of_zone {o n : List (List Int)} {rs : List Rec} (hz : zoneOk o rs = true) (hn : nameOk n = true) : (lookA (strOfNums (keyN n)) (rs.foldl (fun B r => bkPut (strOfNums (keyN r.name)) (strOfNums (keyD r)) r B) [])).getD [] = (ofName n rs).map (fun r => (keyR r, r)) := page_is hn rs (names_ok (zone_oks hz)) (keys_asc hz) keyR rfl
end Go.Proofs.YtmlcmkoefelolaaGreat
