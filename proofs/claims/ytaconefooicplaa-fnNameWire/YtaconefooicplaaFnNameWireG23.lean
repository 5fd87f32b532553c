/-
  The program's labelsOf, as what a loop ranges over. Plain facts: a region whose order is open, inside a round of a range over a function, by the laws for one outside.
-/
import Derived.Test.YtaconefooicplaaFnNameWireG22
import Derived.RangeFuncNested
import Derived.RangeFuncBound
import Derived.RangeFuncCalls
import Derived.RangeFuncLeaves
import Derived.Shelf.Abstract
import Derived.Shelf.RegionOpen
import Derived.WalkKit
import Derived.OwnWalkIn
import Derived.TacticsInMore
import Derived.LoopNIn
import Derived.LoopIn
import Derived.Test.YtaconefooicplaaFnNameWireG00
import Derived.OrdersIn
import Derived.OrdersHeld
import Derived.TacticsIn
namespace Go.Proofs.Ytaconefooicplaa
open Go.RowKit Go.Shelf
set_option linter.unusedVariables false

/-- A label, with the slice that has it. -/
abbrev Lab (w : World) := { p : Value × List Int // Has w p.1 p.2 ∧ Bytes8 p.2 ∧ p.2.length ≤ 1048576 }
/-- What lies as a dot, lies so. -/
def KeepsDots (W W' : World) : Prop := ∀ k : Nat, W.heap[k]? = some (Obj.cells #[.int .u8 46] 5) → W'.heap[k]? = some (Obj.cells #[.int .u8 46] 5)
def KpL (n0 : Nat) (W W' : World) : Prop := Below n0 W W' ∧ KeepsDots W W'
theorem kpL_t {n0 : Nat} {A B C : World} (h : KpL n0 A B) (k : KpL n0 B C) : KpL n0 A C := ⟨h.1.trans k.1, fun q hq => k.2 q (h.2 q hq)⟩

theorem headOf_le : ∀ r, (headOf r).length ≤ r.length
  | [] => Nat.le_refl _
  | x :: xs => by
    have := headOf_le xs
    rw [headOf]; split
    · simp
    · simp; omega
theorem bytes8_head : ∀ r, Bytes8 r → Bytes8 (headOf r) := fun r h => by
  cases hd : hasDot r with
  | false => rw [(dot_none r hd).1]; exact h
  | true =>
    obtain ⟨i, _, e, _⟩ := dot_some r hd
    rw [e]
    intro k
    simp only [List.getD_eq_getElem?_getD, List.getElem?_take]
    have := h k
    rw [List.getD_eq_getElem?_getD] at this
    split
    · exact this
    · simp
theorem bytes8_tail : ∀ r, Bytes8 r → Bytes8 (tailOf r) := fun r h => by
  cases hd : hasDot r with
  | false => rw [(dot_none r hd).2]; exact bytes8_nil
  | true =>
    obtain ⟨i, _, _, e⟩ := dot_some r hd
    rw [e]
    intro k
    simp only [List.getD_eq_getElem?_getD, List.getElem?_drop]
    have := h (i + 1 + k)
    rwa [List.getD_eq_getElem?_getD] at this
theorem tail_len (r : List Int) : (tailOf r).length ≤ r.length := by
  cases hd : hasDot r with
  | false => rw [(dot_none r hd).2]; simp
  | true => exact Nat.le_of_lt (tail_le r hd)
theorem trimD_le (l : List Int) : (trimD l).length ≤ l.length := by
  unfold trimD; split
  · simp
  · exact Nat.le_refl _
theorem bytes8_trim {l : List Int} (h : Bytes8 l) : Bytes8 (trimD l) := by
  unfold trimD; split
  · intro k
    rw [List.dropLast_eq_take]
    simp only [List.getD_eq_getElem?_getD, List.getElem?_take]
    have := h k
    rw [List.getD_eq_getElem?_getD] at this
    split
    · exact this
    · simp
  · exact h

theorem grown_drewN (w : World) (n : Nat) (row : Option Nat) : w.grownBy (w.drewN n) row := ⟨rfl, rfl, rfl, Nat.le_refl _, fun _ _ _ => rfl⟩
def lenV : Value → Nat
  | .slice _ n _ => n
  | _ => 0
def flagV : Value → Nat
  | .bool true => 1
  | _ => 0
theorem has_len {w : World} {v : Value} {r : List Int} (h : Has w v r) : lenV v = r.length := by
  rcases h with ⟨rfl, rfl⟩ | ⟨_, _, _, rfl, _⟩ <;> rfl
theorem below_drewN {B : Nat} {a w : World} (h : Below B a w) (q : Nat) : Below B a (w.drewN q) := ⟨h.os, h.tape, h.output, h.size, h.block⟩
/-- What stands in each round of the iterator. -/
def GotL (w0 : World) (t : List Int) (J : List (Lab w0) → World → Prop) (d : Nat) (rv mv : Value) (wr : World) : Prop :=
  ∃ (pre : List (Lab w0)) (r : List Int) (b : Bool), mv = .bool b ∧ ((b = true ∧ Has w0 rv r ∧ Bytes8 r ∧ r.length + pre.length ≤ t.length ∧ pre.map (·.1.2) ++ pieces r = pieces (trimD t)) ∨ (b = false ∧ pre.map (·.1.2) = pieces (trimD t))) ∧
    J pre wr ∧ Below w0.heap.size w0 wr ∧ wr.heap[d]? = some (Obj.cells #[.int .u8 46] 5)

set_option maxHeartbeats 4000000 in
set_option maxRecDepth 100000 in
theorem labels1_in (n : Nat) (hn : 1 ≤ n) (l Bt n0 : Nat) (w0 : World) (v : Value) (t : List Int) (hn0 : n0 = w0.heap.size) (hT : Has w0 v t) (hb : Bytes8 t) (hl : t.length ≤ 1048576)
    (J Jx : List (Lab w0) → World → Prop) (W : World) (hW : Below n0 w0 W) (hJ : AbidesFrom W.heap.size J)
    (hY : ∀ pre x W1, J pre W1 → pre.length < t.length + 2 → YieldAt Fence.wide (n - 1) Try.prog l #[x.1.1] W1 fun e W' => (e = .returned (.bool true) ∧ J (pre ++ [x]) W' ∧ KpL n0 W1 W') ∨ (e = .returned (.bool false) ∧ Jx (pre ++ [x]) W'))
    (hBt : W.cell? ⟨Bt, 0, none⟩ = some v) (h0 : J [] W) :
    CallsIn Fence.wide n Try.prog 81 #[.func (.yield l) #[] #[], .pointer (some ⟨Bt, 0, none⟩)] W fun e W' => (∃ v, e = .returned v) ∧
      ((∃ xs, xs.map (·.1.2) = pieces (trimD t) ∧ J xs W') ∨ (∃ pre, pre.map (·.1.2) <+: pieces (trimD t) ∧ Jx pre W')) := by
  subst hn0
  have b1 := below_alloc (w := W) (.cells #[.int .u8 46] 5)
  have k1 := heap_alloc_new W (.cells #[.int .u8 46] 5)
  have bw1 := hW.alloc hW.size (.cells #[.int .u8 46] 5)
  have hT1 := hT.below bw1
  have HT := hide (trim_dot hT1 hb hl (block_one k1))
  have cB : (W.alloc (.cells #[.int .u8 46] 5)).cell? ⟨Bt, 0, none⟩ = some v := ((below_alloc (w := W) (.cells #[.int .u8 46] 5)).cell (p := ⟨Bt, 0, none⟩) (World.block_lt_of_cell? W ⟨Bt, 0, none⟩ hBt)).trans hBt
  have hJ1 : J [] (W.alloc (.cells #[.int .u8 46] 5)) := hJ [] W _ none h0 (World.grownBy_alloc W _ none) (fun r e => by cases e)
  refine callsIn_of_wp Try.func81 rfl trivial ?_ rfl
  simp only [Try.ntmps81, List.size_toArray, List.length_cons, List.length_nil, Nat.reduceAdd, Nat.reduceSub, Array.replicate_succ, Array.replicate_zero, List.push_toArray, List.append_toArray, List.nil_append, List.cons_append]
  gi_wp2_with (refine ⟨trivial, ?_⟩; gi_at_call 82; refine (callsIn_wide.2 (unhide HT)).mono ?_; rintro e w' ⟨u, rfl, hu, rfl⟩)
  clear HT cB
  have hTu := hide (hu w0 hT)
  have hB8 := hide (bytes8_trim hb)
  have hlt := trimD_le t
  have HJ := hide hJ
  have HY := hide hY
  have B1 := hide bw1
  have K1 := hide k1
  have HJ1 := hide hJ1
  clear hu hT1 bw1 k1 hJ1 hJ hY b1 h0 hBt
  gi_loopw [4, 5] (fun rv mv wr => GotL w0 t J W.heap.size rv mv wr) (fun rv mv _ => lenV rv + flagV mv)
  case atStart => exact ⟨[], trimD t, true, rfl, .inl ⟨rfl, unhide hTu, unhide hB8, by simp; omega, rfl⟩, unhide HJ1, unhide B1, unhide K1⟩
  case round =>
    obtain ⟨pre, r, b, rfl, hcase, hj, hbl, hk⟩ := hrel
    rcases hcase with ⟨rfl, hr, hr8, hrl, hp⟩ | ⟨rfl, hp⟩
    · have HC := hide (cut46 (hr.below hbl) hr8 (by omega) (block_one hk))
      have hHead : Bytes8 (headOf r) := bytes8_head r hr8
      have hHl := headOf_le r
      gi_wp2_with (refine ⟨trivial, ?_⟩; gi_at_call 83; refine (callsIn_wide.2 (unhide HC)).mono ?_; rintro e w' ⟨u, v', rfl, huv, q, rfl⟩; obtain ⟨x, hx1, hx2⟩ : ∃ x : Lab w0, x.1.1 = u ∧ x.1.2 = headOf r := ⟨⟨(u, headOf r), (huv w0 hr).1, hHead, by show (headOf r).length ≤ 1048576; omega⟩, rfl, rfl⟩; obtain ⟨fn, tmps, assign, body, hy, hR⟩ := unhide HY pre x (wr.drewN q) (unhide HJ pre wr _ none hj (grown_drewN wr q none) (fun r e => by cases e)) (by omega); rw [hx1] at hy; clear hx1)
      refine hR.mono ?_
      rintro e W3 (⟨rfl, hJ3, hk3⟩ | ⟨rfl, hJx3⟩)
      · have hlr := has_len hr
        have hlv := has_len (huv w0 hr).2
        have hb3 := hbl.trans (Below.trans (below_drewN (Below.refl _ wr) q) hk3.1)
        have hd3 := hk3.2 W.heap.size hk
        have hvv := (huv w0 hr).2
        have hpe := pieces_eq r
        have htl := tail_le r
        have htl2 := tail_len r
        have ht8 := bytes8_tail r hr8
        clear HC hy hR huv hk3
        cases hd : hasDot r with
        | true =>
          rw [hd, if_pos rfl] at hpe
          have htl := htl hd
          gi_wp2
          go_roundw
          case rel => exact ⟨pre ++ [x], tailOf r, true, rfl, .inl ⟨rfl, hvv, ht8, by simp; omega, by rw [← hp, hpe]; simp [hx2]⟩, hJ3, hb3, hd3⟩
          case measure => show lenV v' + flagV (.bool true) < lenV u4 + flagV (.bool true); rw [hlr, hlv]; omega
        | false =>
          rw [hd, if_neg (by simp)] at hpe
          gi_wp2
          go_roundw
          case rel => exact ⟨pre ++ [x], tailOf r, false, rfl, .inr ⟨rfl, by rw [← hp, hpe]; simp [hx2]⟩, hJ3, hb3, hd3⟩
          case measure => show lenV v' + flagV (.bool false) < lenV u4 + flagV (.bool true); rw [hlr, hlv]; simp [flagV]; omega
      · have hpe := pieces_eq r
        clear HC hy hR huv
        gi_wp2
        refine bodyPost_ret (results_none rfl _ _ _) rfl ?_
        exact ⟨⟨_, rfl⟩, .inr ⟨pre ++ [x], by rw [← hp, hpe]; simp [hx2], hJx3⟩⟩
    · gi_wp2
      go_end0
      exact ⟨⟨_, rfl⟩, .inl ⟨pre, hp, hj⟩⟩
end Go.Proofs.Ytaconefooicplaa

namespace Go.Proofs.Ytaconefooicplaa
open Go.RowKit
set_option linter.unusedVariables false

theorem operIn_of {l n : Nat} {P : Program} {o : Oper} {a : Act} {w : World} {K K' : Act → World → Prop} {Q : Exit → Act → World → Prop} (hnd : ∀ c, o.op ≠ .defer c) (hk : ∀ a w, K a w → K' a w) (h : o.wp P a w K Q) :
    o.wpIn (Fence.wide.inRound l) n P a w K' Q := by
  refine ⟨fun f _ => trivial, ?_⟩
  rw [Fence.inRound_round, Oper.semAt_some l _ o hnd]
  unfold Oper.wp at h
  generalize (execOp a.eval o).run P w = r at *
  cases r with
  | ok x w' =>
    cases x with
    | value v => exact hk _ _ h
    | skip => exact hk _ _ h
    | defer d => exact hk _ _ h
    | enter f args => exact ⟨fun q => by simp [Fence.inRound, Fence.wide] at q, CallsIn.inRound l (callsIn_wide.2 (Calls.mono h (fun e w'' he => by cases e <;> first | exact hk _ _ he | exact he)))⟩
    | row row args => exact ⟨fun q => by simp [Fence.inRound, Fence.wide] at q, fun c cs _ => let ⟨v, w'', r, s⟩ := h c cs; ⟨v, w'', hk _ _ r, stepsIn_wide.2 s⟩⟩
    | _ => exact False.elim h
  | halt x w' => cases x <;> first | exact h | exact False.elim h

theorem anyIn_of {l n : Nat} {P : Program} {md : Region.Mode} {ops : Array Oper} {Q : Exit → Act → World → Prop} (hL : ¬ LetsOut Q) (hnd : ∀ (i : Nat) (o : Oper), ops[i]? = some o → ∀ c, o.op ≠ .defer c) :
    ∀ (fuel : Nat) (listed : Array Bool) (a : Act) (w : World), wpAny P md ops Q fuel listed a w → wpAnyIn (Fence.wide.inRound l) n P md ops Q fuel listed a w
  | 0, _, _, _, h => h
  | fuel + 1, listed, a, w, h => by
    refine ⟨h.1, fun i hi => ?_⟩
    have hop := h.2 i hi
    unfold wpOp at hop
    unfold wpOpIn
    cases ho : ops[i]? with
    | none =>
      rw [ho] at hop
      exact anyIn_of hL hnd fuel _ _ _ hop
    | some o =>
      rw [ho] at hop
      dsimp only at hop ⊢
      by_cases hw : Region.wanted o (yielded ops a.tmps) = true
      · rw [if_pos hw] at hop ⊢
        rcases hop with hop | hop
        · exact operIn_of (hnd i o ho) (fun a w q => anyIn_of hL hnd fuel _ a w q) hop
        · exact absurd hop.2 hL
      · rw [if_neg hw] at hop ⊢
        exact ⟨fun f _ => trivial, anyIn_of hL hnd fuel _ _ _ hop⟩
theorem regionIn_any {l n : Nat} {P : Program} {id : Nat} {ops : Array Oper} {Q : Exit → Act → World → Prop} {a : Act} {w : World} (hL : ¬ LetsOut Q) (hnd : ops.all (fun o => match o.op with | .defer _ => false | _ => true) = true) (hm : P.follows .mixedOrders = true)
    (h : wpAny P .any ops Q ops.size (Array.replicate ops.size false) a w.drew) : (Code.region id ops true).wpIn (Fence.wide.inRound l) n P Q a w := by
  refine wpIn_region_any hm (anyIn_of hL ?_ _ _ _ _ h)
  intro i o ho c hc
  have := Array.all_eq_true.1 hnd i (Array.getElem?_eq_some_iff.1 ho).1
  rw [(Array.getElem?_eq_some_iff.1 ho).2] at this
  simp [hc] at this
/-- The beginning: what is held is shown once, and handed on. -/
theorem regionIn_held {l n : Nat} {P : Program} {id : Nat} {ops : Array Oper} {Q : Exit → Act → World → Prop} {S : World → Prop} {a : Act} {w : World} (hL : ¬ LetsOut Q) (hnd : ops.all (fun o => match o.op with | .defer _ => false | _ => true) = true) (hm : P.follows .mixedOrders = true) (hS : S w.drew)
    (h : S w.drew → wpAnyH P .any ops Q S ops.size (Array.replicate ops.size false) a w.drew) : (Code.region id ops true).wpIn (Fence.wide.inRound l) n P Q a w := by
  refine wpIn_region_any hm (anyIn_of hL ?_ _ _ _ _ (wpAny_of_held _ _ _ _ (h hS)))
  intro i o ho c hc
  have := Array.all_eq_true.1 hnd i (Array.getElem?_eq_some_iff.1 ho).1
  rw [(Array.getElem?_eq_some_iff.1 ho).2] at this
  simp [hc] at this
end Go.Proofs.Ytaconefooicplaa
