/-
  Plain facts: a region whose order is open, inside a round of a range over a function, by the laws for one outside. Plain facts: in a region whose order is open, a load may be taken first, even if what waits for it writes the cell that it reads. No program is named here. Contracts of the program's zoneOf, over whatever iterator of records, and copyZone. Contract of the program's set: what a book says of a name and a type, in order, as a row of its own.
-/
import Derived.Test.YtfgcmjpkgdjcfaaGreatDropSetG00
import Derived.OrdersIn
import Derived.OrdersHeld
import Derived.RangeFuncCalls
import Derived.TacticsIn
import Derived.RegionTactic
import Derived.Test.YtfgcmjpkgdjcfaaGreatDropSetG23
import Derived.Test.YtfgcmjpkgdjcfaaGreatDropSetG03
import Derived.Test.YtfgcmjpkgdjcfaaGreatDropSetG06
import Derived.RangeFuncBox
import Derived.Test.YtfgcmjpkgdjcfaaGreatDropSetG27
import Derived.Test.YtfgcmjpkgdjcfaaGreatDropSetG26
namespace Go.Proofs.YtfgcmjpkgdjcfaaGreat
open Go.RowKit
set_option linter.unusedVariables false

theorem operIn_of {l n : Nat} {P : Program} {o : Oper} {a : Act} {w : World} {K K' : Act → World → Prop} {Q : Exit → Act → World → Prop} (hnd : ∀ c, o.op ≠ .defer c) (hk : ∀ a w, K a w → K' a w) (h : o.wp P a w K Q) :
  o.wpIn (Fence.wide.inRound l) n P a w K' Q := by
 refine ⟨fun f _ => trivial, ?_⟩
 rw [Fence.inRound_round, Oper.semAt_some l _ o hnd]
 unfold Oper.wp at h
 generalize (execOp a.eval o).run P w = r at *
 cases r with
 | ok x w' =>
  cases x with
  | value v => exact hk _ _ h
  | skip => exact hk _ _ h
  | defer d => exact hk _ _ h
  | enter f args => exact ⟨fun q => by simp [Fence.inRound, Fence.wide] at q, CallsIn.inRound l (callsIn_wide.2 (Calls.mono h (fun e w'' he => by cases e <;> first | exact hk _ _ he | exact he)))⟩
  | row row args => exact ⟨fun q => by simp [Fence.inRound, Fence.wide] at q, fun c cs _ => let ⟨v, w'', r, s⟩ := h c cs; ⟨v, w'', hk _ _ r, stepsIn_wide.2 s⟩⟩
  | _ => exact False.elim h
 | halt x w' => cases x <;> first | exact h | exact False.elim h

theorem anyIn_of {l n : Nat} {P : Program} {md : Region.Mode} {ops : Array Oper} {Q : Exit → Act → World → Prop} (hL : ¬ LetsOut Q) (hnd : ∀ (i : Nat) (o : Oper), ops[i]? = some o → ∀ c, o.op ≠ .defer c) :
  ∀ (fuel : Nat) (listed : Array Bool) (a : Act) (w : World), wpAny P md ops Q fuel listed a w → wpAnyIn (Fence.wide.inRound l) n P md ops Q fuel listed a w
 | 0, _, _, _, h => h
 | fuel + 1, listed, a, w, h => by
  refine ⟨h.1, fun i hi => ?_⟩
  have hop := h.2 i hi
  unfold wpOp at hop
  unfold wpOpIn
  cases ho : ops[i]? with
  | none =>
   rw [ho] at hop
   exact anyIn_of hL hnd fuel _ _ _ hop
  | some o =>
   rw [ho] at hop
   dsimp only at hop ⊢
   by_cases hw : Region.wanted o (yielded ops a.tmps) = true
   ·rw [if_pos hw] at hop ⊢
    rcases hop with hop | hop
    ·exact operIn_of (hnd i o ho) (fun a w q => anyIn_of hL hnd fuel _ a w q) hop
    ·exact absurd hop.2 hL
   ·rw [if_neg hw] at hop ⊢
    exact ⟨fun f _ => trivial, anyIn_of hL hnd fuel _ _ _ hop⟩
theorem regionIn_any {l n : Nat} {P : Program} {id : Nat} {ops : Array Oper} {Q : Exit → Act → World → Prop} {a : Act} {w : World} (hL : ¬ LetsOut Q) (hnd : ops.all (fun o => match o.op with | .defer _ => false | _ => true) = true) (hm : P.follows .mixedOrders = true)
  (h : wpAny P .any ops Q ops.size (Array.replicate ops.size false) a w.drew) : (Code.region id ops true).wpIn (Fence.wide.inRound l) n P Q a w := by
 refine wpIn_region_any hm (anyIn_of hL ?_ _ _ _ _ h)
 intro i o ho c hc
 have := Array.all_eq_true.1 hnd i (Array.getElem?_eq_some_iff.1 ho).1
 rw [(Array.getElem?_eq_some_iff.1 ho).2] at this
 simp [hc] at this
end Go.Proofs.YtfgcmjpkgdjcfaaGreat

namespace Go.Proofs.YtfgcmjpkgdjcfaaGreat
open Go.RowKit

section
variable {P : Program} {ops : Array Oper} {Q : Exit → Act → World → Prop} {md : Region.Mode} {S : World → Prop} {T : Nat → Bool}

/-- Whatever comes up next; behind those of T the world is as S says. -/
def AnyT (P : Program) (md : Region.Mode) (ops : Array Oper) (Q : Exit → Act → World → Prop) (S : World → Prop) (T : Nat → Bool) : Nat → Array Bool → Act → World → Prop
 | 0, done, a, w => Region.ready md ops done = [] ∧ Q .normal a w
 | n + 1, done, a, w => (Region.ready md ops done = [] → Q .normal a w) ∧ ∀ j, j ∈ Region.ready md ops done → wpOp P ops Q j (fun a1 w1 => (T j = true → S w1) ∧ AnyT P md ops Q S T n (done.setIfInBounds j true) a1 w1) a w

/-- Once all of T have come up, nothing more is asked. -/
theorem AnyT.of_any : ∀ (n : Nat) (done : Array Bool) (a : Act) (w : World), (∀ j, T j = true → done.getD j true = true) → wpAny P md ops Q n done a w → AnyT P md ops Q S T n done a w
 | 0, _, _, _, _, h => h
 | n + 1, done, a, w, hT, h => by
  refine ⟨h.1, fun j hj => wpOp_mono (fun a1 w1 h1 => ⟨fun ht => ?_, AnyT.of_any n _ a1 w1 (fun k hk => ?_) h1⟩) (h.2 j hj)⟩
  ·have := (mem_ready.1 hj).1
   rw [hT j ht] at this
   cases this
  ·by_cases e : j = k
   ·subst e
    by_cases hlt : j < done.size <;> simp [hlt]
   ·rw [getD_set_ne true e]
    exact hT k hk

theorem AnyT.over (n : Nat) (done : Array Bool) (a : Act) (w : World) (hT : (List.range done.size).all (fun j => !T j || done.getD j true) = true) (h : wpAny P md ops Q n done a w) : AnyT P md ops Q S T n done a w := by
 refine AnyT.of_any n done a w (fun j hj => ?_) h
 by_cases hlt : j < done.size
 ·have := List.all_eq_true.1 hT j (by simpa using hlt)
  rw [hj] at this
  simpa using this
 ·simp [hlt]

/-- Number i is taken first: T are those that might come ahead of it. -/
theorem any_firstT {i : Nat} {oi : Oper} {v : Value} (hi : ops[i]? = some oi) (hsel : ∀ (j : Nat) (o : Oper) cs b, ops[j]? = some o → o.op ≠ .select cs b) (hQ : ∀ c a w, Q (.panic c) (a.put oi.dst v) w → Q (.panic c) a w)
  (hT : ∀ (j : Nat) (oj : Oper), ops[j]? = some oj → j ≠ i → (∀ e ∈ oj.after, Region.binds md e = true → e.on ≠ i) → T j = true) (n : Nat) :
  ∀ (done : Array Bool) (a : Act) (w : World), (∀ j oj, ops[j]? = some oj → j ≠ i → done.getD j true = false → (∀ e ∈ oj.after, Region.binds md e = true → e.on ≠ i) → oi.apart ops oj = true) →
   i ∈ Region.ready md ops done → YieldsIf P ops S oi v a → S w → AnyT P md ops Q S T n (done.setIfInBounds i true) (a.put oi.dst v) w → wpAny P md ops Q (n + 1) done a w := by
 induction n with
 | zero =>
  intro done a w _ hr hy hS H
  refine ⟨fun q => absurd (q ▸ hr) (by simp), fun j hj => ?_⟩
  rcases Decidable.em (j = i) with rfl | hji
  ·exact hy.wpOp hi hS H
  ·have hq := ready_mono hj hji
   rw [H.1] at hq
   exact absurd hq (by simp)
 | succ n ih =>
  intro done a w hfree hr hy hS H
  refine ⟨fun q => absurd (q ▸ hr) (by simp), fun j hj => ?_⟩
  rcases Decidable.em (j = i) with rfl | hji
  ·refine hy.wpOp hi hS ?_
   have strip : ∀ (m : Nat) (d : Array Bool) (a : Act) (w : World), AnyT P md ops Q S T m d a w → wpAny P md ops Q m d a w := by
    intro m
    induction m with
    | zero => intro d a w h; exact h
    | succ m im => intro d a w h; exact ⟨h.1, fun k hk => wpOp_mono (fun a1 w1 h1 => im _ _ _ h1.2) (h.2 k hk)⟩
   exact strip _ _ _ _ H
  ·obtain ⟨hun, oj, hoj, hall⟩ := mem_ready.1 hj
   have hno : ∀ e ∈ oj.after, Region.binds md e = true → e.on ≠ i := by
    intro e he hb q
    have h1 := hall e he hb
    have h0 := (mem_ready.1 hr).1
    rw [q] at h1
    by_cases hlt : i < done.size
    ·simp [hlt] at h0 h1
     rw [h0] at h1
     cases h1
    ·simp [hlt] at h0
   have step := wpOp_putIf hoj (hfree j oj hoj hji hun hno) (fun cs b => hsel i oi cs b hi) (fun cs b => hsel j oj cs b hoj) hQ hy (H.2 j (ready_mono hj hji))
   refine wpOp_mono (fun a1 w1 h1 => ?_) step
   refine ih (done.setIfInBounds j true) a1 w1 (fun k ok hk hki hu hn => hfree k ok hk hki ?_ hn) (ready_mono hr (Ne.symm hji)) h1.1 (h1.2.1 (hT j oj hoj hji hno)) ?_
   ·rcases Decidable.em (j = k) with rfl | hjk
    ·exact hun
    ·rwa [getD_set_ne true hjk] at hu
   ·have e : (done.setIfInBounds j true).setIfInBounds i true = (done.setIfInBounds i true).setIfInBounds j true := Array.setIfInBounds_comm _ _ hji
    rw [e]
    exact h1.2.2

/-- Those that wait for number i, as a Bool. -/
def waits (md : Region.Mode) (ops : Array Oper) (i : Nat) (j : Nat) : Bool := match ops[j]? with
 | some o => o.after.any (fun e => Region.binds md e && (e.on == i))
 | none => false
theorem any_takeT {i : Nat} {oi : Oper} {v : Value} {n : Nat} {done : Array Bool} {a : Act} {w : World} (S : World → Prop) (hi : ops[i]? = some oi) (hs : Region.noSelect ops = true) (hf : Region.free md ops done i = true) (hr : (Region.ready md ops done).contains i = true)
  (hQ : ∀ c a w, Q (.panic c) (a.put oi.dst v) w → Q (.panic c) a w) (hy : YieldsIf P ops S oi v a) (hS : S w)
  (h : AnyT P md ops Q S (fun j => !waits md ops i j) n (done.setIfInBounds i true) (a.put oi.dst v) w) : wpAny P md ops Q (n + 1) done a w := by
 refine any_firstT hi (Region.noSelect_spec hs) hQ (fun j oj hj hji hno => ?_) n done a w (Region.free_spec hi hf) (by simpa using hr) hy hS h
 unfold waits
 rw [hj]
 simp only [Bool.not_eq_true', Array.any_eq_false']
 intro e he q
 simp only [Bool.and_eq_true, beq_iff_eq] at q
 exact hno e he q.1 q.2

def AllT (P : Program) (md : Region.Mode) (ops : Array Oper) (Q : Exit → Act → World → Prop) (S : World → Prop) (T : Nat → Bool) (n : Nat) (done : Array Bool) (a : Act) (w : World) (js : List Nat) : Prop :=
 ∀ j, j ∈ js → wpOp P ops Q j (fun a1 w1 => (T j = true → S w1) ∧ AnyT P md ops Q S T n (done.setIfInBounds j true) a1 w1) a w
theorem AllT.nil {n : Nat} {done : Array Bool} {a : Act} {w : World} : AllT P md ops Q S T n done a w [] := fun _ h => absurd h (by simp)
theorem AllT.cons {n : Nat} {done : Array Bool} {a : Act} {w : World} {j : Nat} {o : Oper} {js : List Nat} (ho : ops[j]? = some o)
  (h : ∀ K : Act → World → Prop, (∀ a1 w1, S w1 → AnyT P md ops Q S T n (done.setIfInBounds j true) a1 w1 → K a1 w1) → if Region.wanted o (yielded ops a.tmps) = true then Oper.wp P o a w K Q else K (a.put o.dst undef) w)
  (hs : AllT P md ops Q S T n done a w js) : AllT P md ops Q S T n done a w (j :: js) := by
 intro k hk
 rcases List.mem_cons.1 hk with rfl | hk
 ·exact wpOp_step ho (fun K hK => h K (fun a1 w1 q1 q2 => hK a1 w1 ⟨fun _ => q1, q2⟩))
 ·exact hs k hk
theorem anyT_ready {n : Nat} {done : Array Bool} {a : Act} {w : World} {js : List Nat} (hr : Region.ready md ops done = js) (hne : js ≠ []) (h : AllT P md ops Q S T n done a w js) : AnyT P md ops Q S T (n + 1) done a w :=
 ⟨fun q => absurd (hr.symm.trans q) hne, fun j hj => h j (hr ▸ hj)⟩
end
end Go.Proofs.YtfgcmjpkgdjcfaaGreat

namespace Go.Proofs.YtfgcmjpkgdjcfaaGreat
open Go.RowKit Go.Shelf
set_option linter.unusedVariables false

theorem info_rrZ : (Tryz.prog.info? 59).map (fun i => (i.zero, i.size, i.bytes)) = some (some (.agg #[.slice none 0 0, .int .i64 0, .int .i64 0, .int .i64 0, .slice none 0 0, .slice none 0 0, .slice none 0 0]), 7, 120) := by kernel_rfl
def cellsV {w : World} (x : RecV w) : Array Value := #[x.1.1.1, .int .i64 x.1.2.type, .int .i64 x.1.2.ttl, .int .i64 x.1.2.addr, x.1.1.2.1, x.1.1.2.2.1, x.1.1.2.2.2]
/-- What stands between two rounds. -/
def GotZ (w : World) (Z : Nat) (vo : Value) (o : List (List Int)) (w0 : World) (pre : List (RecV w0)) (W : World) : Prop :=
 (∃ vr, W.heap[Z]? = some (.cells #[vo, vr] 33) ∧ RowO (Z + 1) W.heap.size 59 56 5 3 W vr (pre.map (·.1.2)) ∧ OwnN (w.heap.size + 2) Z 56 5 W vo o ∧ W.heap[w.heap.size + 1]? = some (.cells #[.slice none 0 0, .slice none 0 0] 33) ∧ w.heap.size + 2 ≤ Z) ∧ Below w.heap.size w W
theorem gotZ_own (w : World) (Z : Nat) (vo : Value) (o : List (List Int)) (w0 : World) (B : Nat) (hB : w.heap.size ≤ B) : OwnFrom B (GotZ w Z vo o w0) := by
 intro s W W' row ⟨⟨vr, h1, h2, h3, h4, h5⟩, hb⟩ hg hr
 have hk := keptC_of hg (fun r e => (hr r e).2)
 exact ⟨⟨vr, hk _ _ _ h1, (h2.keptC hk).wide (Nat.le_refl _) hg.size, h3.keptC hk, hk _ _ _ h4, h5⟩, hb.grown hg hb.size (fun k e => by have := (hr k e).1; omega)⟩
theorem keepsFrom_of {B Z : Nat} {W Wd w2 w3 w4 : World} {v4 : Value} {row : Option Nat} {c : Array Value} {t : TypeId} {j : Nat} (h1 : Below W.heap.size W Wd) (h2 : Below Wd.heap.size Wd w2) (h3 : Below w2.heap.size w2 w3) (h4 : w3.grownBy w4 row) (hr : ∀ k o, w3.heap[k]? = some o → o.isCells = false → row ≠ some k) (hZ : w4.heap[Z]? = some (.cells c t)) : KeepsFrom B W (w4.setCell ⟨Z, j, none⟩ v4) := by
 have zs := (grown_setCell w4 ⟨Z, j, none⟩ v4).size
 have z1 := h1.size
 have z2 := h2.size
 have z3 := h3.size
 have z4 := h4.size
 refine ⟨by omega, fun k o hB hk ho => ?_⟩
 have q3 := block_kept h3 (block_kept h2 (block_kept h1 hk))
 have q4 := block_grown h4 q3 (hr k o q3 ho)
 refine block_grown (grown_setCell w4 ⟨Z, j, none⟩ v4) q4 ?_
 intro e
 simp only [Option.some.injEq] at e
 subst e
 rw [hZ] at q4
 cases q4
 cases ho

end Go.Proofs.YtfgcmjpkgdjcfaaGreat

namespace Go.Proofs.YtfgcmjpkgdjcfaaGreat
open Go.RowKit Go.Shelf
set_option linter.unusedVariables false

/-- What stands between two rounds. -/
def GotS (w w0 : World) (mb : Option Nat) (Bt : Nat) (t : Int) (pre : List (RecV w0)) (W : World) : Prop :=
 (∃ vr, W.heap[w.heap.size + 2]? = some (.cells #[vr] 31) ∧ RowO (w.heap.size + 3) W.heap.size 59 56 5 3 W vr ((pre.map (·.1.2)).filter (selT t))) ∧ W.heap[w.heap.size + 1]? = some (.cells #[.int .i64 t] 3) ∧ W.heap[Bt]? = some (.cells #[.map mb] 97) ∧ Below w.heap.size w W
theorem gotS_own (w w0 : World) (mb : Option Nat) (Bt : Nat) (t : Int) (B : Nat) (hB : w.heap.size ≤ B) : OwnFrom B (GotS w w0 mb Bt t) := by
 intro s W W' row ⟨⟨vr, h1, h2⟩, h3, h4, hb⟩ hg hr
 have hk := keptC_of hg (fun r e => (hr r e).2)
 exact ⟨⟨vr, hk _ _ _ h1, (h2.keptC hk).wide (Nat.le_refl _) hg.size⟩, hk _ _ _ h3, hk _ _ _ h4, hb.grown hg hb.size (fun k e => by have := (hr k e).1; omega)⟩
theorem look_opt {n0 : Nat} {w w' : World} {b : Nat} {B : Bk} (hB : BookM n0 w b B) (hb : Below w.heap.size w w') {kn : ByteArray} (hk : kn.size ≤ maxLen) : ∃ mb, (Instr.lookup 64 (.map (some b)) (.string kn) false).run Tryz.prog w' = .ok (.map mb) w' ∧ OptPage w mb ((lookA kn B).getD []) := by
 obtain ⟨_, ps, hM, hT, _⟩ := hB
 rcases two_look (k := kn) hT with ⟨l1, l2⟩ | ⟨v, P, l1, l2, ⟨p, rfl, _, _, q3⟩, _⟩
 ·exact ⟨none, look_none (hM.below hb) hk l1, .inl ⟨rfl, by rw [l2]; rfl⟩⟩
 ·exact ⟨some p, look_page (hM.below hb) hk l1, .inr ⟨p, rfl, by rw [l2]; exact q3⟩⟩

set_option maxHeartbeats 2000000 in
set_option maxRecDepth 100000 in
theorem set_in {n0 b : Nat} {B : Bk} {v : Value} {n : List (List Int)} (t : Int) {w : World} (hB : BookM n0 w b B) (hn : HasL w v n) (hs : ShortN n) (hl : ((lookA (strOfNums (keyN n)) B).getD []).length ≤ 1000) (hsh : ∀ x ∈ (lookA (strOfNums (keyN n)) B).getD [], ShortR x.2) :
  CallsIn Fence.wide 7 Tryz.prog 34 #[.map (some b), .agg #[v], .int .i64 t] w fun e w' => ∃ ur, e = .returned ur ∧ RowO w.heap.size w'.heap.size 59 56 5 3 w' ur ((sortP ((lookA (strOfNums (keyN n)) B).getD [])).filter (selT t)) ∧ Below w.heap.size w w' := by
 obtain ⟨a, cap, rfl, _⟩ := hn.form
 have hkn := keyN_size hs
 have hsz1 : (w.alloc (.cells #[.slice a n.length cap] 30)).heap.size = w.heap.size + 1 := World.size_alloc w _
 obtain ⟨hsz, k0, r0⟩ := box2 w (.cells #[.slice a n.length cap] 30) #[.int .i64 t] 3
 have b0 := below2 w (.cells #[.slice a n.length cap] 30) (.cells #[.int .i64 t] 3)
 have b1 := below_alloc (w := (w.alloc (.cells #[.slice a n.length cap] 30)).alloc (.cells #[.int .i64 t] 3)) (.cells #[.slice none 0 0] 31)
 have o0 := heap_alloc_new ((w.alloc (.cells #[.slice a n.length cap] 30)).alloc (.cells #[.int .i64 t] 3)) (.cells #[.slice none 0 0] 31)
 rw [hsz] at o0
 have bb := below_next b0 b1
 have KT := hide (block_kept b1 r0)
 have KO := hide o0
 have c0 := block_one (block_kept b1 k0)
 have HN := hide (nameKey_in (hn.below bb) hs.1 hs.2)
 have HB := hide hB
 have zo := block_lt o0
 clear hsz hsz1 k0 r0 o0 b0 b1 hB hn
 generalize hKN : strOfNums (keyN n) = kn at *
 generalize hPP : (lookA kn B).getD [] = P at *
 have HPP := hide hPP
 clear hKN hPP
 refine callsIn_of_wp_marks Tryz.func34 rfl trivial ?_ rfl
 simp only [Tryz.ntmps34, List.size_toArray, List.length_cons, List.length_nil, Nat.reduceAdd, Nat.reduceSub, Array.replicate_succ, Array.replicate_zero, List.push_toArray, List.append_toArray, List.nil_append, List.cons_append]
 gi_wp2_with (first
  | (refine ⟨trivial, ?_⟩; gi_at_call 71; refine (callsIn_wide.2 (callsIn_wide.1 (unhide HN))).mono ?_; rintro e w1 ⟨rfl, b1⟩; obtain ⟨mb, hlook, hOP⟩ := look_opt (unhide HB) (below_next bb b1) hkn)
  | (refine ⟨trivial, ?_⟩; gi_at_call 70; refine (callsIn_wide.2 (asc_any _ _)).mono ?_; rintro e w2 ⟨rfl, hw2⟩))
 have bz := below_alloc (w := w1) (.cells #[.map mb] 97)
 have kz := heap_alloc_new w1 (.cells #[.map mb] 97)
 have bb1 := below_next bb b1
 have hB0 := below_next bb1 bz
 have kt := block_kept bz (block_kept b1 (unhide KT))
 have ko := block_kept bz (block_kept b1 (unhide KO))
 have zB := block_lt kz
 have z1 := b1.size
 clear hw2 hlook c0 b1 bz bb HN KT KO HB
 generalize hW0 : w1.alloc (.cells #[.map mb] 97) = W0 at *
 clear hW0
 have hOP' : OptPage w mb P := by rw [← unhide HPP]; exact hOP
 have zw3 : w.heap.size + 3 ≤ w1.heap.size := by omega
 refine wpIn_rangeFunc_ownH rfl (by omega) (gf := 102) (lb := #[.pointer (some ⟨w1.heap.size, 0, none⟩)]) rfl trivial (enters_of Tryz.func102 (by kernel_rfl) rfl) (asc_stops w1.heap.size w W0 mb P hOP' hl hsh hB0 kz) (fun h k => kpS_t h k) (kpS_b (w := W0) hB0.size) (Below.refl _ _) (fun _ => rfl)
  (GotS w w mb w1.heap.size t) (fun _ _ _ => False) (gotS_own w w mb _ t _ hB0.size) (fun _ _ _ _ _ h _ _ => h)
  ⟨⟨.slice none 0 0, ko, RowO.nil _ _ _ _ _ _ _⟩, kt, kz, hB0⟩
  (fun x a' W => ∃ Bx, w1.heap.size < Bx ∧ W.heap[Bx]? = some (.cells (cellsV x) 59) ∧ a' = { tmps := #[.map (some b), .agg #[.slice a n.length cap], .int .i64 t, undef, .pointer (some ⟨w.heap.size, 0, none⟩), .pointer (some ⟨w.heap.size + 1, 0, none⟩), .slice none 0 0, .pointer (some ⟨w.heap.size + 1 + 1, 0, none⟩), .pointer (some ⟨Bx, 0, none⟩), .map (some b), .agg #[.slice a n.length cap], .string kn, .map mb, .func (.func 102) #[] #[.pointer (some ⟨w1.heap.size, 0, none⟩)], .agg (cellsV x), undef, undef, undef, undef, undef, undef, undef, undef, undef, undef, undef, undef, undef, undef], defers := [] })
  (fun x a' _ W W' row ⟨Bx, q1, q2, q3⟩ hg hr => ⟨Bx, q1, keptC_of hg (fun r e => (hr r e).2) _ _ _ q2, q3⟩) ?assign ?body ?done ?stop
 case assign =>
  rintro lr pre x W K hi hK
  have hsem := Oper.semAt_some lr
  obtain ⟨⟨⟨vn, vt, vx, vi⟩, r⟩, hRR⟩ := x
  have hR := hRR.1
  have hS := hRR.2
  dsimp only at hR hS hRR
  obtain ⟨na, nc, rfl, _⟩ := hR.name.form
  obtain ⟨ta, tc, rfl, _⟩ := hR.to.form
  obtain ⟨xa, xc, rfl, _⟩ := hR.text.form
  obtain ⟨ia, ic, rfl, _⟩ := hR.nums.form
  have zW := block_lt hi.2.2.1
  have ba := below_alloc (w := W) (.cells #[.slice na r.name.length nc, .int .i64 r.type, .int .i64 r.ttl, .int .i64 r.addr, .slice ta r.to.length tc, .slice xa r.text.length xc, .slice ia r.nums.length ic] 59)
  have hi2 := gotS_own w w mb w1.heap.size t w.heap.size (Nat.le_refl _) pre W _ none hi (World.grownBy_alloc W (.cells #[.slice na r.name.length nc, .int .i64 r.type, .int .i64 r.ttl, .int .i64 r.addr, .slice ta r.to.length tc, .slice xa r.text.length xc, .slice ia r.nums.length ic] 59) none) (fun r e => by cases e)
  have kx := heap_alloc_new W (.cells #[.slice na r.name.length nc, .int .i64 r.type, .int .i64 r.ttl, .int .i64 r.addr, .slice ta r.to.length tc, .slice xa r.text.length xc, .slice ia r.nums.length ic] 59)
  have HK := hide hK
  have H2 := hide hi2
  have KX := hide kx
  have BA := hide ba
  clear hK hi2 kx ba hi
  unfold encV
  gi_wp2
  exact unhide HK _ _ ((KeepsOthers.alloc _ _).from _) ⟨⟨(unhide BA).mono (by omega), fun c t q => block_kept (unhide BA) q⟩, fun g c q => block_kept (unhide BA) q⟩ (unhide H2) ⟨W.heap.size, zW, unhide KX, rfl⟩
 case body =>
  rintro lr pre x a' W hl' ⟨rr, hrr⟩ ⟨⟨vr, kZ, hrow⟩, kT, kB, hB⟩ ⟨Bx, hBx, kX, rfl⟩ hlt
  have hsem := Oper.semAt_some lr
  obtain ⟨⟨⟨vn, vt, vx, vi⟩, r⟩, hRR⟩ := x
  have hR := hRR.1
  have hS := hRR.2
  dsimp only at hR hS hRR
  obtain ⟨na, nc, rfl, _⟩ := hR.name.form
  obtain ⟨ta, tc, rfl, _⟩ := hR.to.form
  obtain ⟨xa, xc, rfl, _⟩ := hR.text.form
  obtain ⟨ia, ic, rfl, _⟩ := hR.nums.form
  obtain ⟨ra, rc, rfl, _⟩ := hrow.form
  replace kX : W.heap[Bx]? = some (.cells #[.slice na r.name.length nc, .int .i64 r.type, .int .i64 r.ttl, .int .i64 r.addr, .slice ta r.to.length tc, .slice xa r.text.length xc, .slice ia r.nums.length ic] 59) := kX
  have hlp : ((pre.map (·.1.2)).filter (selT t)).length ≤ 1000 := by
   refine Nat.le_trans (List.length_filter_le _ _) ?_
   rw [List.length_map]
   rw [keysP_length] at hlt
   omega
  generalize hsel : ((pre.map (·.1.2)).filter (selT t)) = sel at *
  have HSEL := hide hsel
  clear hsel
  generalize hnl : sel.length = nl at *
  have HNL := hide hnl
  clear hnl
  have zT := block_lt kT
  have zX := block_lt kX
  have zB2 := block_lt kB
  unfold cellsV
  dsimp only
  cases hst : selT t r with
  | false =>
   have e255 : (t == 255) = false := by
    unfold selT at hst
    rw [Bool.or_eq_false_iff] at hst
    exact hst.1
   have ett : (r.type == t) = false := by
    unfold selT at hst
    rw [Bool.or_eq_false_iff] at hst
    exact hst.2
   have ct := block_one kT
   obtain ⟨d0, d1, d2, d3, d4, d5, d6⟩ := cells7 kX
   have FIN : Hid (GotS w w mb w1.heap.size t (pre ++ [⟨((.slice na r.name.length nc, .slice ta r.to.length tc, .slice xa r.text.length xc, .slice ia r.nums.length ic), r), hRR⟩]) W) := ⟨⟨_, kZ, by rw [List.map_append, List.filter_append, unhide HSEL]; simp [hst]; rw [unhide HNL] at *; exact hrow⟩, kT, kB, hB⟩
   clear hst kZ kT kB hB hrow kX hR hS HNL HSEL hrr kz kt ko hB0
   gi_wp2
   exact ⟨KeepsFrom.refl _ _, ⟨⟨Below.refl _ _, fun _ _ q => q⟩, fun _ _ q => q⟩, unhide FIN⟩
  | true =>
   have HST := hide hst
   have ct := block_one kT
   obtain ⟨d0, d1, d2, d3, d4, d5, d6⟩ := cells7 kX
   have bd := below_drew (w := W)
   have KZ := hide (block_kept bd kZ)
   have KX := hide (block_kept bd kX)
   have KTT := hide (block_kept bd kT)
   have KBB := hide (block_kept bd kB)
   have KB0 := hide kB
   have ROW := hide (hrow.below bd)
   have BB := hide (below_next hB bd)
   have HR := hide (hR.below (below_next hB bd))
   have HSS := hide hS
   have zd := bd.size
   have zw := hB.size
   have BD := hide bd
   have hor : (t == 255) = true ∨ ((t == 255) = false ∧ (r.type == t) = true) := by
    unfold selT at hst
    cases h255 : (t == 255) with
    | true => exact .inl rfl
    | false =>
     rw [h255, Bool.false_or] at hst
     exact .inr ⟨rfl, hst⟩
   clear hst kZ kX kT kB hrow hB hR hS bd hrr kz kt ko hB0
   rcases hor with e255 | ⟨e255, ett⟩
   ·gi_wp2
    clear d0 d1 d2 d3 d4 d5 d6 ct
    refine regionIn_any (by rintro ⟨a', w', hq⟩; exact hq) (by kernel_rfl) (by kernel_rfl) ?_
    show wpAny _ _ _ _ _ _ _ W.drew
    generalize W.drew = Wd at *
    have cZ : Wd.cell? ⟨w.heap.size + 1 + 1, 0, none⟩ = some (.slice ra nl rc) := block_one (unhide KZ)
    obtain ⟨d0, d1, d2, d3, d4, d5, d6⟩ := cells7 (unhide KX)
    refine any_takeT (i := 0) (oi := ⟨some 23, Op.load 31 (.tmp 7), 31, "l05_zone.go:125", #[], none⟩) (v := .slice ra nl rc) (fun w' => w'.cell? ⟨w.heap.size + 1 + 1, 0, none⟩ = some (.slice ra nl rc)) rfl (by kernel_rfl) (by kernel_rfl) (by kernel_rfl) (fun _ _ _ h => h) (Or.inl ⟨by rfl, fun w' hw' => by go_simp⟩) cZ ?_
    try simp only [Act.put, List.setIfInBounds_toArray, List.set_cons_zero, List.set_cons_succ]
    refine anyT_ready (js := [1]) (by kernel_rfl) (by simp) (AllT.cons (o := ⟨some 24, Op.load 59 (.tmp 8), 59, "l05_zone.go:125", #[], none⟩) rfl (fun K hK => ?_) AllT.nil)
    have HK := hide hK
    clear hK
    go_simp
    refine unhide HK _ _ cZ ?_
    clear HK K d0 d1 d2 d3 d4 d5 d6
    try simp only [Act.put, List.setIfInBounds_toArray, List.set_cons_zero, List.set_cons_succ]
    refine anyT_ready (js := [2]) (by kernel_rfl) (by simp) (AllT.cons (o := ⟨some 25, Op.call { callee := Callee.value (Operand.func 72), args := #[Operand.tmp 24], argTypes := #[59] }, 59, "l05_zone.go:125", #[⟨1, .data⟩], none⟩) rfl (fun K hK => ?_) AllT.nil)
    have HK := hide hK
    clear hK
    go_simp
    refine (copyRr_own (unhide HR) (unhide HSS)).mono ?_
    rintro e w2 ⟨un, ut, ux, ui, rfl, oR, b2⟩
    obtain ⟨pa, pc, rfl, _⟩ := oR.hasR.name.form
    obtain ⟨qa, qc, rfl, _⟩ := oR.hasR.to.form
    obtain ⟨ya, yc, rfl, _⟩ := oR.hasR.text.form
    obtain ⟨za, zc, rfl, _⟩ := oR.hasR.nums.form
    have OR := hide oR
    have B2 := hide b2
    have z2 := b2.size
    have cZ2 : w2.cell? ⟨w.heap.size + 1 + 1, 0, none⟩ = some (.slice ra nl rc) := block_one (block_kept b2 (unhide KZ))
    clear oR b2
    go_simp
    refine unhide HK _ _ cZ2 ?_
    clear HK K cZ cZ2
    try simp only [Act.put, List.setIfInBounds_toArray, List.set_cons_zero, List.set_cons_succ]
    have b3 := below_alloc (w := w2) (.cells #[.slice pa r.name.length pc, .int .i64 r.type, .int .i64 r.ttl, .int .i64 r.addr, .slice qa r.to.length qc, .slice ya r.text.length yc, .slice za r.nums.length zc] 59)
    have g3 := heap_alloc_new w2 (.cells #[.slice pa r.name.length pc, .int .i64 r.type, .int .i64 r.ttl, .int .i64 r.addr, .slice qa r.to.length qc, .slice ya r.text.length yc, .slice za r.nums.length zc] 59)
    have k3 := block_kept b3 (block_kept (unhide B2) (unhide KZ))
    have row3 := ((unhide ROW).below (unhide B2)).below b3
    have OR3 := hide ((unhide OR).below b3)
    have kt3 := block_kept b3 (block_kept (unhide B2) (unhide KTT))
    have kb3 := block_kept b3 (block_kept (unhide B2) (unhide KBB))
    have bb3 := below_next (below_next (unhide BB) (unhide B2)) b3
    have z3 := b3.size
    have B3 := hide b3
    have G3 := hide g3
    have K3 := hide k3
    have ROW3 := hide row3
    have KT3 := hide kt3
    have KB3 := hide kb3
    have BB3 := hide bb3
    have cZ3 : (w2.alloc (.cells #[.slice pa r.name.length pc, .int .i64 r.type, .int .i64 r.ttl, .int .i64 r.addr, .slice qa r.to.length qc, .slice ya r.text.length yc, .slice za r.nums.length zc] 59)).cell? ⟨w.heap.size + 1 + 1, 0, none⟩ = some (.slice ra nl rc) := block_one k3
    clear b3 g3 k3 row3 kt3 kb3 bb3 ROW KTT KBB KX HR HSS OR
    refine anyT_ready (js := [3]) (by kernel_rfl) (by simp) (AllT.cons (o := ⟨some 26, Op.buildSlice 31 1 #[(0, Operand.tmp 25)], 31, "l05_zone.go:125", #[⟨2, .data⟩], none⟩) rfl (fun K hK => ?_) AllT.nil)
    have HK := hide hK
    clear hK
    go_simp
    refine unhide HK _ _ cZ3 ?_
    clear HK K cZ3
    try simp only [Act.put, List.setIfInBounds_toArray, List.set_cons_zero, List.set_cons_succ]
    generalize w2.alloc (.cells #[.slice pa r.name.length pc, .int .i64 r.type, .int .i64 r.ttl, .int .i64 r.addr, .slice qa r.to.length qc, .slice ya r.text.length yc, .slice za r.nums.length zc] 59) = w3 at *
    refine AnyT.over _ _ _ _ (by kernel_rfl) ?_
    refine wpAny_ready (rs := [4]) (by kernel_rfl) (by simp) (AllReady.cons (o := ⟨some 27, Op.call { callee := Callee.builtin Builtin.append, args := #[Operand.tmp 23, Operand.tmp 26], argTypes := #[31, 31] }, 31, "l05_zone.go:125", #[⟨0, .data⟩, ⟨3, .data⟩, ⟨2, .chain⟩], none⟩) rfl (fun K hK => ?_) AllReady.nil)
    have HK := hide hK
    clear hK
    obtain ⟨xs3, f3, gf3, hx3, hq3, hh3⟩ := unhide ROW3
    rw [unhide HNL] at hx3
    refine step_append_rec rfl (.tmp 23) (.tmp 26) 31 59 rfl Tryz.underlying31 _ info_rrZ rfl (w.heap.size + 3) (.slice ra nl rc) nl (by simp [Act.eval]) w2.heap.size [.slice pa r.name.length pc, .int .i64 r.type, .int .i64 r.ttl, .int .i64 r.addr, .slice qa r.to.length qc, .slice ya r.text.length yc, .slice za r.nums.length zc] (by simp [Act.eval]) ⟨xs3, hx3⟩ (unhide G3) rfl (by simp [Value.oneCell']) (by omega) (by omega) ?_
    intro v4 w4 ho4 g4 hw4
    have row4 := RowO.snoc (unhide ROW3) (C := Wd.heap.size) (D := w2.heap.size) zd z3 (unhide OR3) (by omega) g4 hw4 (by rw [unhide HNL]; exact ho4)
    have u4 : Outside (w.heap.size + 3) w3.heap.size w3 w4 := outside_grown g4 (fun k hk => World.ownsRow.lt hx3 k hk)
    have k4 := block_grown g4 (unhide K3) (row_type hx3 (unhide K3) (by decide))
    have kt4 := block_grown g4 (unhide KT3) (row_type hx3 (unhide KT3) (by decide))
    have kb4 := block_grown g4 (unhide KB3) (row_type hx3 (unhide KB3) (by decide))
    have kf := keepsFrom_of (B := W0.heap.size) (j := 0) (v4 := v4) (unhide BD) (unhide B2) (unhide B3) g4 (fun k o h1 h2 => row_notC hx3 h1 h2) k4
    have u5 := outside_set w4 (w.heap.size + 2) 0 v4
    have z4 := u4.size
    have z5 := u5.size
    have bel : Below w.heap.size W (w4.setCell ⟨w.heap.size + 2, 0, none⟩ v4) := u5.belowAt (u4.belowAt (((unhide BD).mono (by omega)).trans (((unhide B2).mono (by omega)).trans ((unhide B3).mono (by omega)))) (by omega) (by omega)) (by omega) (by omega)
    have bb5 : Below w.heap.size w (w4.setCell ⟨w.heap.size + 2, 0, none⟩ v4) := u5.below (u4.below (unhide BB3) (by omega)) (by omega)
    have FIN : Hid (GotS w w mb w1.heap.size t (pre ++ [⟨((.slice na r.name.length nc, .slice ta r.to.length tc, .slice xa r.text.length xc, .slice ia r.nums.length ic), r), hRR⟩]) (w4.setCell ⟨w.heap.size + 2, 0, none⟩ v4)) := ⟨⟨v4, block_setAt k4 0 v4, by rw [List.map_append, List.filter_append, unhide HSEL, List.map_cons, List.map_nil, List.filter_cons_of_pos (unhide HST), List.filter_nil]; exact (row4.outside u5 (.inr (Nat.le_refl _))).wide (Nat.le_refl _) z5⟩, u5.kept kt4 (by omega), u5.kept kb4 (by omega), bb5⟩
    have KPS : Hid (KpS w.heap.size w1.heap.size W (w4.setCell ⟨w.heap.size + 2, 0, none⟩ v4)) := by
     refine ⟨⟨bel, fun c' t' q => ?_⟩, fun g c' q => ?_⟩
     ·rw [unhide KB0] at q
      cases q
      exact u5.kept kb4 (by omega)
     ·have q3 := block_kept (unhide B3) (block_kept (unhide B2) (block_kept (unhide BD) q))
      have q4 := block_grown g4 q3 (row_type hx3 q3 (by decide))
      refine block_grown (grown_setCell w4 ⟨w.heap.size + 2, 0, none⟩ v4) q4 ?_
      intro e
      simp only [Option.some.injEq] at e
      rw [← e, k4] at q4
      cases q4
    have KF := hide kf
    have c4 : w4.cell? ⟨w.heap.size + 1 + 1, 0, none⟩ = some (.slice ra nl rc) := block_one k4
    have f4 : w4.frozen? ⟨w.heap.size + 1 + 1, 0, none⟩ = false := block_frozen k4 0
    obtain ⟨v4a, v4c, hv4, _⟩ := row4.form
    rw [List.length_append, unhide HNL] at hv4
    replace hv4 : v4 = .slice v4a (nl + 1) v4c := hv4
    subst hv4
    clear row4 u4 k4 kt4 kb4 kf u5 bel bb5 ho4 g4 hw4 hx3 hq3 hh3 ROW3 OR3 KT3 KB3 BB3 G3 K3 B2 B3 BD BB
    refine unhide HK _ _ ?_
    clear HK K
    try simp only [Act.put, List.setIfInBounds_toArray, List.set_cons_zero, List.set_cons_succ]
    refine wpAny_ready (rs := [5]) (by kernel_rfl) (by simp) (AllReady.cons (o := ⟨none, Op.store 31 (.tmp 7) (.tmp 27), 0, "l05_zone.go:125", #[⟨4, .data⟩, ⟨4, .chain⟩, ⟨0, .phase⟩, ⟨1, .phase⟩, ⟨2, .phase⟩, ⟨3, .phase⟩, ⟨4, .phase⟩], none⟩) rfl (fun K hK => ?_) AllReady.nil)
    have HK := hide hK
    clear hK
    go_simp
    refine unhide HK _ _ ?_
    clear HK K
    refine wpAny_done (by kernel_rfl) ?_ _
    exact ⟨unhide KF, unhide KPS, unhide FIN⟩
   ·gi_wp2
    clear d0 d1 d2 d3 d4 d5 d6 ct
    refine regionIn_any (by rintro ⟨a', w', hq⟩; exact hq) (by kernel_rfl) (by kernel_rfl) ?_
    show wpAny _ _ _ _ _ _ _ W.drew
    generalize W.drew = Wd at *
    have cZ : Wd.cell? ⟨w.heap.size + 1 + 1, 0, none⟩ = some (.slice ra nl rc) := block_one (unhide KZ)
    obtain ⟨d0, d1, d2, d3, d4, d5, d6⟩ := cells7 (unhide KX)
    refine any_takeT (i := 0) (oi := ⟨some 23, Op.load 31 (.tmp 7), 31, "l05_zone.go:125", #[], none⟩) (v := .slice ra nl rc) (fun w' => w'.cell? ⟨w.heap.size + 1 + 1, 0, none⟩ = some (.slice ra nl rc)) rfl (by kernel_rfl) (by kernel_rfl) (by kernel_rfl) (fun _ _ _ h => h) (Or.inl ⟨by rfl, fun w' hw' => by go_simp⟩) cZ ?_
    try simp only [Act.put, List.setIfInBounds_toArray, List.set_cons_zero, List.set_cons_succ]
    refine anyT_ready (js := [1]) (by kernel_rfl) (by simp) (AllT.cons (o := ⟨some 24, Op.load 59 (.tmp 8), 59, "l05_zone.go:125", #[], none⟩) rfl (fun K hK => ?_) AllT.nil)
    have HK := hide hK
    clear hK
    go_simp
    refine unhide HK _ _ cZ ?_
    clear HK K d0 d1 d2 d3 d4 d5 d6
    try simp only [Act.put, List.setIfInBounds_toArray, List.set_cons_zero, List.set_cons_succ]
    refine anyT_ready (js := [2]) (by kernel_rfl) (by simp) (AllT.cons (o := ⟨some 25, Op.call { callee := Callee.value (Operand.func 72), args := #[Operand.tmp 24], argTypes := #[59] }, 59, "l05_zone.go:125", #[⟨1, .data⟩], none⟩) rfl (fun K hK => ?_) AllT.nil)
    have HK := hide hK
    clear hK
    go_simp
    refine (copyRr_own (unhide HR) (unhide HSS)).mono ?_
    rintro e w2 ⟨un, ut, ux, ui, rfl, oR, b2⟩
    obtain ⟨pa, pc, rfl, _⟩ := oR.hasR.name.form
    obtain ⟨qa, qc, rfl, _⟩ := oR.hasR.to.form
    obtain ⟨ya, yc, rfl, _⟩ := oR.hasR.text.form
    obtain ⟨za, zc, rfl, _⟩ := oR.hasR.nums.form
    have OR := hide oR
    have B2 := hide b2
    have z2 := b2.size
    have cZ2 : w2.cell? ⟨w.heap.size + 1 + 1, 0, none⟩ = some (.slice ra nl rc) := block_one (block_kept b2 (unhide KZ))
    clear oR b2
    go_simp
    refine unhide HK _ _ cZ2 ?_
    clear HK K cZ cZ2
    try simp only [Act.put, List.setIfInBounds_toArray, List.set_cons_zero, List.set_cons_succ]
    have b3 := below_alloc (w := w2) (.cells #[.slice pa r.name.length pc, .int .i64 r.type, .int .i64 r.ttl, .int .i64 r.addr, .slice qa r.to.length qc, .slice ya r.text.length yc, .slice za r.nums.length zc] 59)
    have g3 := heap_alloc_new w2 (.cells #[.slice pa r.name.length pc, .int .i64 r.type, .int .i64 r.ttl, .int .i64 r.addr, .slice qa r.to.length qc, .slice ya r.text.length yc, .slice za r.nums.length zc] 59)
    have k3 := block_kept b3 (block_kept (unhide B2) (unhide KZ))
    have row3 := ((unhide ROW).below (unhide B2)).below b3
    have OR3 := hide ((unhide OR).below b3)
    have kt3 := block_kept b3 (block_kept (unhide B2) (unhide KTT))
    have kb3 := block_kept b3 (block_kept (unhide B2) (unhide KBB))
    have bb3 := below_next (below_next (unhide BB) (unhide B2)) b3
    have z3 := b3.size
    have B3 := hide b3
    have G3 := hide g3
    have K3 := hide k3
    have ROW3 := hide row3
    have KT3 := hide kt3
    have KB3 := hide kb3
    have BB3 := hide bb3
    have cZ3 : (w2.alloc (.cells #[.slice pa r.name.length pc, .int .i64 r.type, .int .i64 r.ttl, .int .i64 r.addr, .slice qa r.to.length qc, .slice ya r.text.length yc, .slice za r.nums.length zc] 59)).cell? ⟨w.heap.size + 1 + 1, 0, none⟩ = some (.slice ra nl rc) := block_one k3
    clear b3 g3 k3 row3 kt3 kb3 bb3 ROW KTT KBB KX HR HSS OR
    refine anyT_ready (js := [3]) (by kernel_rfl) (by simp) (AllT.cons (o := ⟨some 26, Op.buildSlice 31 1 #[(0, Operand.tmp 25)], 31, "l05_zone.go:125", #[⟨2, .data⟩], none⟩) rfl (fun K hK => ?_) AllT.nil)
    have HK := hide hK
    clear hK
    go_simp
    refine unhide HK _ _ cZ3 ?_
    clear HK K cZ3
    try simp only [Act.put, List.setIfInBounds_toArray, List.set_cons_zero, List.set_cons_succ]
    generalize w2.alloc (.cells #[.slice pa r.name.length pc, .int .i64 r.type, .int .i64 r.ttl, .int .i64 r.addr, .slice qa r.to.length qc, .slice ya r.text.length yc, .slice za r.nums.length zc] 59) = w3 at *
    refine AnyT.over _ _ _ _ (by kernel_rfl) ?_
    refine wpAny_ready (rs := [4]) (by kernel_rfl) (by simp) (AllReady.cons (o := ⟨some 27, Op.call { callee := Callee.builtin Builtin.append, args := #[Operand.tmp 23, Operand.tmp 26], argTypes := #[31, 31] }, 31, "l05_zone.go:125", #[⟨0, .data⟩, ⟨3, .data⟩, ⟨2, .chain⟩], none⟩) rfl (fun K hK => ?_) AllReady.nil)
    have HK := hide hK
    clear hK
    obtain ⟨xs3, f3, gf3, hx3, hq3, hh3⟩ := unhide ROW3
    rw [unhide HNL] at hx3
    refine step_append_rec rfl (.tmp 23) (.tmp 26) 31 59 rfl Tryz.underlying31 _ info_rrZ rfl (w.heap.size + 3) (.slice ra nl rc) nl (by simp [Act.eval]) w2.heap.size [.slice pa r.name.length pc, .int .i64 r.type, .int .i64 r.ttl, .int .i64 r.addr, .slice qa r.to.length qc, .slice ya r.text.length yc, .slice za r.nums.length zc] (by simp [Act.eval]) ⟨xs3, hx3⟩ (unhide G3) rfl (by simp [Value.oneCell']) (by omega) (by omega) ?_
    intro v4 w4 ho4 g4 hw4
    have row4 := RowO.snoc (unhide ROW3) (C := Wd.heap.size) (D := w2.heap.size) zd z3 (unhide OR3) (by omega) g4 hw4 (by rw [unhide HNL]; exact ho4)
    have u4 : Outside (w.heap.size + 3) w3.heap.size w3 w4 := outside_grown g4 (fun k hk => World.ownsRow.lt hx3 k hk)
    have k4 := block_grown g4 (unhide K3) (row_type hx3 (unhide K3) (by decide))
    have kt4 := block_grown g4 (unhide KT3) (row_type hx3 (unhide KT3) (by decide))
    have kb4 := block_grown g4 (unhide KB3) (row_type hx3 (unhide KB3) (by decide))
    have kf := keepsFrom_of (B := W0.heap.size) (j := 0) (v4 := v4) (unhide BD) (unhide B2) (unhide B3) g4 (fun k o h1 h2 => row_notC hx3 h1 h2) k4
    have u5 := outside_set w4 (w.heap.size + 2) 0 v4
    have z4 := u4.size
    have z5 := u5.size
    have bel : Below w.heap.size W (w4.setCell ⟨w.heap.size + 2, 0, none⟩ v4) := u5.belowAt (u4.belowAt (((unhide BD).mono (by omega)).trans (((unhide B2).mono (by omega)).trans ((unhide B3).mono (by omega)))) (by omega) (by omega)) (by omega) (by omega)
    have bb5 : Below w.heap.size w (w4.setCell ⟨w.heap.size + 2, 0, none⟩ v4) := u5.below (u4.below (unhide BB3) (by omega)) (by omega)
    have FIN : Hid (GotS w w mb w1.heap.size t (pre ++ [⟨((.slice na r.name.length nc, .slice ta r.to.length tc, .slice xa r.text.length xc, .slice ia r.nums.length ic), r), hRR⟩]) (w4.setCell ⟨w.heap.size + 2, 0, none⟩ v4)) := ⟨⟨v4, block_setAt k4 0 v4, by rw [List.map_append, List.filter_append, unhide HSEL, List.map_cons, List.map_nil, List.filter_cons_of_pos (unhide HST), List.filter_nil]; exact (row4.outside u5 (.inr (Nat.le_refl _))).wide (Nat.le_refl _) z5⟩, u5.kept kt4 (by omega), u5.kept kb4 (by omega), bb5⟩
    have KPS : Hid (KpS w.heap.size w1.heap.size W (w4.setCell ⟨w.heap.size + 2, 0, none⟩ v4)) := by
     refine ⟨⟨bel, fun c' t' q => ?_⟩, fun g c' q => ?_⟩
     ·rw [unhide KB0] at q
      cases q
      exact u5.kept kb4 (by omega)
     ·have q3 := block_kept (unhide B3) (block_kept (unhide B2) (block_kept (unhide BD) q))
      have q4 := block_grown g4 q3 (row_type hx3 q3 (by decide))
      refine block_grown (grown_setCell w4 ⟨w.heap.size + 2, 0, none⟩ v4) q4 ?_
      intro e
      simp only [Option.some.injEq] at e
      rw [← e, k4] at q4
      cases q4
    have KF := hide kf
    have c4 : w4.cell? ⟨w.heap.size + 1 + 1, 0, none⟩ = some (.slice ra nl rc) := block_one k4
    have f4 : w4.frozen? ⟨w.heap.size + 1 + 1, 0, none⟩ = false := block_frozen k4 0
    obtain ⟨v4a, v4c, hv4, _⟩ := row4.form
    rw [List.length_append, unhide HNL] at hv4
    replace hv4 : v4 = .slice v4a (nl + 1) v4c := hv4
    subst hv4
    clear row4 u4 k4 kt4 kb4 kf u5 bel bb5 ho4 g4 hw4 hx3 hq3 hh3 ROW3 OR3 KT3 KB3 BB3 G3 K3 B2 B3 BD BB
    refine unhide HK _ _ ?_
    clear HK K
    try simp only [Act.put, List.setIfInBounds_toArray, List.set_cons_zero, List.set_cons_succ]
    refine wpAny_ready (rs := [5]) (by kernel_rfl) (by simp) (AllReady.cons (o := ⟨none, Op.store 31 (.tmp 7) (.tmp 27), 0, "l05_zone.go:125", #[⟨4, .data⟩, ⟨4, .chain⟩, ⟨0, .phase⟩, ⟨1, .phase⟩, ⟨2, .phase⟩, ⟨3, .phase⟩, ⟨4, .phase⟩], none⟩) rfl (fun K hK => ?_) AllReady.nil)
    have HK := hide hK
    clear hK
    go_simp
    refine unhide HK _ _ ?_
    clear HK K
    refine wpAny_done (by kernel_rfl) ?_ _
    exact ⟨unhide KF, unhide KPS, unhide FIN⟩
 case done =>
  rintro D xs W hD hS ⟨⟨vr, kZ, hrow⟩, kT, kB, hB⟩ hK
  rw [hS] at hrow
  obtain ⟨ra, rc, rfl, _⟩ := hrow.form
  have e0 := block_one kZ
  have ROW := hide hrow
  have BB := hide hB
  have HKK := hide hK
  have zD := block_lt hK
  have zZ := block_lt kZ
  clear kZ kT kB hrow hB hK kz kt ko
  gi_wp2
  refine ⟨by simp, .inl ⟨_, _, rfl, run_takeDeferred (unhide HKK), ?_⟩⟩
  have hkk := keptC_of (grownBy_putObj' W D (.deferred none)) (fun r e => by cases e; exact ⟨_, unhide HKK, rfl⟩)
  have zp := (grownBy_putObj' W D (.deferred none)).size
  exact ⟨_, results_tmp rfl _ _ _, _, rfl, ((unhide ROW).keptC hkk).wide (by omega) (by omega), (unhide BB).trans (belowK_b (w := w) (Nat.le_refl _) W D _ _ (by omega) (unhide HKK) rfl rfl)⟩
 case stop =>
  rintro D c pre W _ _ h _
  exact h.elim
end Go.Proofs.YtfgcmjpkgdjcfaaGreat
