/-
  Plain facts: the order of names is one. No program is named here. Plain facts: which records may be a zone's, said by neighbours and said by all. No program is named here. Plain facts: a zone's records of a name and a type, the first SOA, and a row of records that is appended to. No program is named here. Plain facts: an append of one record to a row of records. Contracts of the helpers of the laws for records (toRr). Contracts of the helpers of the laws for rows of records (szRrS, toRrS, eqRrS). Contract of the specification's l1PickInt. Contracts of the specification's draws of chapter 1: l1Once, l1PickInt, l1some. Contract of the specification's l1some: a few drawn bytes. Contracts of the specification's LabelOk.
-/
import Derived.Test.YtjgfljndeolmoaaFnInsidesG08
import Derived.Test.YtjgfljndeolmoaaFnInsidesG06
import Derived.Test.YtjgfljndeolmoaaFnInsidesG02
import Derived.Test.YtjgfljndeolmoaaFnInsidesG05
import Derived.Deep.RegionHeld3
import Derived.Test.YtjgfljndeolmoaaFnInsidesG01
namespace Go.Proofs.Ytjgfljndeolmoaa
open Go.RowKit

theorem compare_swap : ∀ (a b : List UInt8), Lib.compareBytes a b = - Lib.compareBytes b a
 | [], [] => rfl
 | [], _ :: _ => rfl
 | _ :: _, [] => rfl
 | x :: a, y :: b => by
  have ih := compare_swap a b
  unfold Lib.compareBytes
  by_cases h1 : x < y
  ·have h2 : ¬ y < x := fun h => UInt8.lt_irrefl x (UInt8.lt_trans h1 h)
   simp [h1, h2]
  ·by_cases h2 : y < x
   ·simp [h1, h2]
   ·simp only [h1, h2, if_false]
    exact ih

theorem cmpB_swap (a b : List Int) : cmpB a b = - cmpB b a := compare_swap _ _
/-- Lists of texts held against each other from the first on. -/
def cmpL : List (List Int) → List (List Int) → Int
 | [], [] => 0
 | [], _ :: _ => -1
 | _ :: _, [] => 1
 | x :: a, y :: b => if cmpB x y ≠ 0 then cmpB x y else cmpL a b

theorem cmpL_swap : ∀ (a b : List (List Int)), cmpL a b = - cmpL b a
 | [], [] => rfl
 | [], _ :: _ => rfl
 | _ :: _, [] => rfl
 | x :: a, y :: b => by
  have ih := cmpL_swap a b
  have hs := cmpB_swap x y
  unfold cmpL
  by_cases h : cmpB x y = 0
  ·have h' : cmpB y x = 0 := by omega
   simp only [h, h', ne_eq, not_true, if_false]
   exact ih
  ·have h' : ¬ cmpB y x = 0 := by omega
   simp only [h, h', ne_eq, not_false_iff, if_true]
   exact hs
theorem find_congr {α : Type} {p q : α → Bool} : ∀ {l : List α}, (∀ x ∈ l, p x = q x) → l.find? p = l.find? q
 | [], _ => rfl
 | y :: l, h => by
  rw [List.find?_cons, List.find?_cons, h y (by simp), find_congr (fun x hx => h x (by simp [hx]))]

/-- As cmpN, but from the first label on. -/
def cmpF (a b : List (List Int)) : Int :=
 match (List.range (min a.length b.length)).find? (fun j => cmpB (a.getD j []) (b.getD j []) != 0) with
 | some j => cmpB (a.getD j []) (b.getD j [])
 | none => byLength a.length b.length

theorem cmpF_eq : ∀ (a b : List (List Int)), cmpF a b = cmpL a b
 | [], [] => rfl
 | [], y :: b => by
  unfold cmpF cmpL byLength
  simp
 | x :: a, [] => by
  unfold cmpF cmpL byLength
  simp
  omega
 | x :: a, y :: b => by
  have ih := cmpF_eq a b
  unfold cmpL
  have e : min (x :: a).length (y :: b).length = min a.length b.length + 1 := by simp
  unfold cmpF
  rw [e, List.range_succ_eq_map, List.find?_cons]
  by_cases h : cmpB x y = 0
  ·have h1 : (cmpB ((x :: a).getD 0 []) ((y :: b).getD 0 []) != 0) = false := by simpa using h
   rw [h1]
   simp only [h, ne_eq, not_true, if_false]
   rw [List.find?_map]
   rw [← ih]
   unfold cmpF
   have hq : ((fun j => cmpB ((x :: a).getD j []) ((y :: b).getD j []) != 0) ∘ Nat.succ) = (fun j => cmpB (a.getD j []) (b.getD j []) != 0) := by
    funext j
    simp
   rw [hq]
   cases hf : (List.range (min a.length b.length)).find? (fun j => cmpB (a.getD j []) (b.getD j []) != 0) with
   | none =>
    simp only [Option.map_none]
    unfold byLength
    simp
   | some j =>
    simp only [Option.map_some]
    simp
  ·have h1 : (cmpB ((x :: a).getD 0 []) ((y :: b).getD 0 []) != 0) = true := by simpa using h
   rw [h1]
   simp [h]

theorem getD_reverse (a : List (List Int)) (j : Nat) (h : j < a.length) : a.reverse.getD j [] = a.getD (a.length - (j + 1)) [] := by
 rw [List.getD_eq_getElem?_getD, List.getD_eq_getElem?_getD, List.getElem?_reverse h]
 congr 2
 omega

theorem cmpN_eq (a b : List (List Int)) : cmpN a b = cmpL a.reverse b.reverse := by
 rw [← cmpF_eq]
 unfold cmpN cmpF
 rw [List.length_reverse, List.length_reverse]
 have hp : ∀ j, j < min a.length b.length → atEnd a b (j + 1) = cmpB (a.reverse.getD j []) (b.reverse.getD j []) := fun j hj => by
  rw [getD_reverse a j (by omega), getD_reverse b j (by omega)]
  rfl
 have hf : (List.range (min a.length b.length)).find? (fun j => atEnd a b (j + 1) != 0) = (List.range (min a.length b.length)).find? (fun j => cmpB (a.reverse.getD j []) (b.reverse.getD j []) != 0) := find_congr (fun j hj => by
  rw [hp j (by simpa using hj)])
 rw [hf]
 cases hq : (List.range (min a.length b.length)).find? (fun j => cmpB (a.reverse.getD j []) (b.reverse.getD j []) != 0) with
 | none => rfl
 | some j =>
  have := List.mem_of_find?_eq_some hq
  exact hp j (by simpa using this)

theorem cmpN_swap (a b : List (List Int)) : cmpN a b = - cmpN b a := by
 rw [cmpN_eq, cmpN_eq, ← cmpL_swap]
end Go.Proofs.Ytjgfljndeolmoaa

namespace Go.Proofs.Ytjgfljndeolmoaa
open Go.RowKit


/-- May b come next to a. -/
def follows (a b : Rec) : Bool := decide (rrCmp a b < 0) && ((decide (a.type ≠ 5) && decide (b.type ≠ 5)) || decide (nameCmp a.name b.name ≠ 0))
/-- No other one has its name, if it is an alias. -/
def alone (rs : List Rec) (i : Nat) : Prop := (rs.getD i recZ).type = 5 → ∀ k, k < rs.length → k ≠ i → cmpN (rs.getD k recZ).name (rs.getD i recZ).name ≠ 0
theorem rrOk_name {r : Rec} (h : rrOk r = true) : nameOk r.name = true := by
 unfold rrOk at h
 simp only [Bool.and_eq_true] at h
 exact h.1
end Go.Proofs.Ytjgfljndeolmoaa

namespace Go.Proofs.Ytjgfljndeolmoaa
open Go.RowKit

/-- A row of records that the slice v owns, from block B on; their lists lie as they did in W. -/
def RowS (B : Nat) (e : TypeId) (W w : World) (v : Value) (rs : List Rec) : Prop :=
 ∃ xs, w.ownsRow B e 7 v rs.length xs ∧ ∀ i, i < rs.length → ∃ vn vt vx vi, (∀ j u, (cellsR vn vt vx vi (rs.getD i recZ))[j]? = some u → xs[i * 7 + j]? = some u) ∧ HasR W vn vt vx vi (rs.getD i recZ)
theorem RowS.nil (B : Nat) (e : TypeId) (W w : World) : RowS B e W w (.slice none 0 0) [] := ⟨[], World.ownsRow_nil _ _ _ _, fun i hi => absurd hi (by simp)⟩
theorem RowS.snoc {B : Nat} {e : TypeId} {W w' : World} {v' : Value} {rs : List Rec} {xs : List Value} {r : Rec} {vn vt vx vi : Value} (hl : xs.length = rs.length * 7)
  (hx : ∀ i, i < rs.length → ∃ vn vt vx vi, (∀ j u, (cellsR vn vt vx vi (rs.getD i recZ))[j]? = some u → xs[i * 7 + j]? = some u) ∧ HasR W vn vt vx vi (rs.getD i recZ))
  (ho : w'.ownsRow B e 7 v' (rs.length + 1) (xs ++ cellsR vn vt vx vi r)) (hr : HasR W vn vt vx vi r) : RowS B e W w' v' (rs ++ [r]) := by
 refine ⟨xs ++ cellsR vn vt vx vi r, by rw [List.length_append]; exact ho, fun i hi => ?_⟩
 rw [List.length_append] at hi
 simp only [List.length_cons, List.length_nil] at hi
 by_cases h : i < rs.length
 ·obtain ⟨un, ut, ux, ui, q1, q2⟩ := hx i h
  have e1 : (rs ++ [r]).getD i recZ = rs.getD i recZ := by rw [List.getD_eq_getElem?_getD, List.getElem?_append_left h, ← List.getD_eq_getElem?_getD]
  rw [e1]
  refine ⟨un, ut, ux, ui, fun j u hj => ?_, q2⟩
  have hj7 : j < 7 := by
   have := (List.getElem?_eq_some_iff.1 hj).1
   simpa [cellsR] using this
  rw [List.getElem?_append_left (by omega)]
  exact q1 j u hj
 ·obtain rfl : i = rs.length := by omega
  have e1 : (rs ++ [r]).getD rs.length recZ = r := by rw [List.getD_eq_getElem?_getD]; simp
  rw [e1]
  refine ⟨vn, vt, vx, vi, fun j u hj => ?_, hr⟩
  rw [List.getElem?_append_right (by omega), hl, Nat.add_sub_cancel_left]
  exact hj
theorem RowS.has {B : Nat} {e : TypeId} {W w : World} {v : Value} {rs : List Rec} (h : RowS B e W w v rs) (hb : Below W.heap.size W w) : HasRs w v rs := by
 obtain ⟨xs, ho, hx⟩ := h
 have ho' := ho
 rcases ho.2 with ⟨rfl, hn⟩ | ⟨g, cap, cur, rfl, hB, hg, hn, hm, hs, ht⟩
 ·exact .inl ⟨rfl, List.eq_nil_of_length_eq_zero hn⟩
 ·refine .inr ⟨g, 0, cap, rfl, block_lt hg, hn, hm, fun i hi => ?_⟩
  obtain ⟨vn, vt, vx, vi, q1, q2⟩ := hx i hi
  refine ⟨vn, vt, vx, vi, fun j u hj => ?_, q2.below hb⟩
  have hj7 : j < 7 := by
   have := (List.getElem?_eq_some_iff.1 hj).1
   simpa [cellsR] using this
  rw [Nat.zero_add, World.ownsRow.cellAt ho' (i * 7 + j) (by omega)]
  exact q1 j u hj
end Go.Proofs.Ytjgfljndeolmoaa

namespace Go.Proofs.Ytjgfljndeolmoaa
open Go.RowKit
set_option linter.unusedVariables false

theorem append_rec {P : Program} {w : World} {ops : Array Oper} {rest : List Oper} {o : Oper} {a : Act} {Q : Exit → Act → World → Prop} (hgd : o.guard = none) (s x : Operand) (t e : TypeId)
  (ho : o.op = .call { callee := .builtin .append, args := #[s, x], argTypes := #[t, t] }) (ht : P.underlying t = some (.slice e)) (zs : Array Value)
  (hinfo : (P.info? e).map (fun i => (i.zero, i.size, i.bytes)) = some (some (.agg zs), 7, 120)) (hzs : zs.size = 7)
  (base : Nat) (v : Value) (n : Nat) (xs : List Value) (hs : a.eval s = v) (hown : w.ownsRow base e 7 v n xs) (g : Nat) (cs : List Value) (hx : a.eval x = .slice (some ⟨g, 0, none⟩) 1 1)
  (hg : w.heap[g]? = some (.cells cs.toArray e)) (hcl : cs.length = 7) (h1 : ∀ u ∈ cs, u.oneCell' = true) (hlen : n ≤ 1000) (hbase : base ≤ w.heap.size)
  (h : ∀ v' w', w'.ownsRow base e 7 v' (n + 1) (xs ++ cs) → w.grownBy w' v.ownBlock → wpList P ops Q rest (a.put o.dst v') w') : wpList P ops Q (o :: rest) a w := by
 obtain ⟨i0, hi, hzz⟩ := Option.map_eq_some_iff.1 hinfo
 simp only [Prod.mk.injEq] at hzz
 obtain ⟨hz0, hz1, hz2⟩ := hzz
 refine wpList_append_own w hgd s x t ho base e i0 (.agg zs) 7 120 ht hi hz0 hz1 hz2 hzs (by decide) v n xs hs hown ⟨g, 0, none⟩ 1 1 cs hx (by rw [hcl]) (fun j u hj => ?_) h1 (by unfold maxLen; omega) (by omega) hbase ?_
 ·rw [Addr.add_lit, Nat.zero_add, block_cell hg]
  simpa using hj
 ·intro v' w' q1 q2 _
  exact h v' w' q1 q2
end Go.Proofs.Ytjgfljndeolmoaa

namespace Go.Proofs.Ytjgfljndeolmoaa
open Go.RowKit
set_option linter.unusedVariables false

end Go.Proofs.Ytjgfljndeolmoaa

namespace Go.Proofs.Ytjgfljndeolmoaa
open Go.RowKit
set_option linter.unusedVariables false

theorem info_rr : (Try.prog.info? 34).map (fun i => (i.zero, i.size, i.bytes)) = some (some (.agg #[.slice none 0 0, .int .i64 0, .int .i64 0, .int .i64 0, .slice none 0 0, .slice none 0 0, .slice none 0 0]), 7, 120) := by kernel_rfl
end Go.Proofs.Ytjgfljndeolmoaa

namespace Go.Proofs.Ytjgfljndeolmoaa
open Go.RowKit
set_option linter.unusedVariables false

theorem below_cursor {w w1 w2 : World} {row : Option Nat} (hb : Below w.heap.size w w1) (hg : w1.grownBy w2 row) (hr : ∀ j, row = some j → w.heap.size ≤ j) : Below w.heap.size w w2 := hb.grown hg hb.size hr
end Go.Proofs.Ytjgfljndeolmoaa

namespace Go.Proofs.Ytjgfljndeolmoaa
open Go.RowKit
set_option linter.unusedVariables false

set_option maxHeartbeats 400000 in
set_option maxRecDepth 100000 in
theorem l1Once_any {g : Nat} {a : Option Addr} {len cap : Nat} {w : World} (n : Int) (hc : Cur w g a len cap) (hL : Code w g a len) (hm : len ≤ maxLen) (hn0 : 1 ≤ n) (hn1 : n ≤ 1099511627776) :
  Calls Try.prog 41 #[.pointer (some ⟨g, 0, none⟩), .int .i64 n] w fun e w' => ∃ x : Bool, e = .returned (.bool x) ∧ Cur w' g a len cap ∧ w.grownBy w' (some g) := by
 have HM := hide hm
 clear hm
 go_enter Try.func41, Try.ntmps41
 go_wp2_with fail
 refine (l1Below_any n hc hL (unhide HM) hn0 hn1).mono ?_
 rintro e w1 ⟨x, rfl, hx0, hx1, hc1, g1⟩
 go_wp2
 go_ret
 exact ⟨_, rfl, hc1, g1⟩
end Go.Proofs.Ytjgfljndeolmoaa

namespace Go.Proofs.Ytjgfljndeolmoaa
open Go.RowKit
set_option linter.unusedVariables false

set_option maxHeartbeats 1000000 in
set_option maxRecDepth 100000 in
theorem l1some_any {g : Nat} {a : Option Addr} {len cap : Nat} {w : World} (most : Int) (hc : Cur w g a len cap) (hL : Code w g a len) (hm : len ≤ maxLen) (hn0 : 1 ≤ most) (hn1 : most ≤ 1048576) :
  Calls Try.prog 85 #[.pointer (some ⟨g, 0, none⟩), .int .i64 most] w fun e w' => ∃ v l, e = .returned v ∧ Own w.heap.size 5 w' v l ∧ (l.length : Int) < most ∧ (∀ x ∈ l, 0 ≤ x ∧ x ≤ 255) ∧ Cur w' g a len cap ∧ w.grownBy w' (some g) := by
 have HM := hide hm
 clear hm
 have hgw := hc.lt
 go_enter Try.func85, Try.ntmps85
 go_wp2_with fail
 refine (l1Below_any most hc hL (unhide HM) hn0 (by omega)).mono ?_
 rintro e w1 ⟨x, rfl, hx0, hx1, hc1, g1⟩
 have hL1 := hL.grown g1
 have HC1 := hide hc1
 clear hc1 hc hL
 obtain ⟨n, rfl⟩ := Int.eq_ofNat_of_zero_le hx0
 go_wp2
 go_loopw [5, 7] (fun b i wr => ∃ (k : Nat) (l : List Int), k ≤ n ∧ i = .int .i64 k ∧ l.length = k ∧ (∀ x ∈ l, 0 ≤ x ∧ x ≤ 255) ∧ Own w.heap.size 5 wr b l ∧ Hid (Cur wr g a len cap) ∧ Code wr g a len ∧ w.grownBy wr (some g)) (fun _ i _ => n - (intOf i).toNat)
 case atStart => exact ⟨0, [], Nat.zero_le _, rfl, rfl, by simp, World.ownsRow_nil _ _ _ _, HC1, hL1, g1⟩
 case round =>
  obtain ⟨k, l, hk, rfl, hlk, hlb, ho, hcr, hLr, gr⟩ := hrel
  have HLK := hide hlk
  clear hlk
  have HLB := hide hlb
  clear hlb
  have hsz := gr.size
  by_cases hlt : k < n
  ·go_wp2_with fail
   refine (l1Byte_any (unhide hcr) hLr (unhide HM)).mono ?_
   rintro e w2 ⟨y, rfl, hy0, hy1, hc2, g2⟩
   have hL2 := hLr.grown g2
   have o2 : Own w.heap.size 5 w2 u5 l := ho.kept g2 (by
    cases hv : u5.ownBlock with
    | none => exact .inl rfl
    | some j => right; intro e; have := (ho.lt j hv).1; simp at e; omega)
   have gr2 := grown_trans gr g2
   have z2 := gr2.size
   have HC2 := hide hc2
   clear hc2 g2 hLr ho gr
   go_wp2_with (at_builtin; refine append_bytes rfl _ _ 22 5 rfl Try.underlying22 info_u8 w.heap.size u5 _ l [y] rfl rfl (o2.alloc _) (own_lit w2 0 5 [y] (Nat.zero_le _) (by simp [maxLen])).reads (by rw [unhide HLK]; simp; omega) (by simp; omega) ?_)
   intro v3 w3 o3 g3
   have hrow : ∀ j, u5.ownBlock = some j → w.heap.size ≤ j := fun j e => (o2.lt j e).1
   have g23 := grown_alloc w2 (.cells #[.int .u8 y] 5) none
   have c3 := hide (((unhide HC2).later g23 (by simp)).later g3 (fun j e => by have := hrow j e; omega))
   have l3 := (hL2.later g23 (by simp)).later g3 (fun j e => by have := hrow j e; omega)
   have gr3 := grown_own (grown_own gr2 g23 (by simp)) g3 hrow
   clear g3 g23
   go_wp2
   refine ⟨⟨k + 1, l ++ [y], by omega, by go_num, by rw [List.length_append, unhide HLK]; rfl, ?_, o3, c3, l3, gr3⟩, by simp [intOf]; omega⟩
   intro x hx
   simp at hx
   rcases hx with hx | rfl
   ·exact unhide HLB x hx
   ·exact ⟨hy0, hy1⟩
  ·go_wp2
   go_ret
   exact ⟨_, l, rfl, ho, by rw [unhide HLK]; omega, unhide HLB, unhide hcr, gr⟩
end Go.Proofs.Ytjgfljndeolmoaa

namespace Go.Proofs.Ytjgfljndeolmoaa
open Go.RowKit
set_option linter.unusedVariables false

theorem ssign_cases (c : Int) : (97 ≤ c ∧ c ≤ 122) ∨ (97 ≤ c ∧ 122 < c) ∨ (c < 97 ∧ 48 ≤ c ∧ c ≤ 57) ∨ (c < 97 ∧ 48 ≤ c ∧ 57 < c ∧ c ≠ 45) ∨ (c < 97 ∧ c < 48 ∧ c = 45) ∨ (c < 97 ∧ c < 48 ∧ c ≠ 45) := by omega

set_option maxHeartbeats 1600000 in
set_option maxRecDepth 100000 in
theorem specLabelOk_has {v : Value} {l : List Int} {w : World} (h : Has w v l) :
  Calls Try.prog 105 #[v] w fun e w' => e = .returned (.bool (labelOk l)) ∧ w = w' := by
 have hbd := h.bound
 unfold maxLen at hbd
 obtain ⟨a, cap, rfl, hL⟩ := h.form
 by_cases h0 : l.length = 0
 ·rw [labelOk_short (by omega), h0]
  go_enter Try.func105, Try.ntmps105
  go_wp2
  go_ret
  exact ⟨rfl, rfl⟩
 ·by_cases h1 : 15 < l.length
  ·rw [labelOk_short (by omega)]
   generalize hn : l.length = n at *
   go_enter Try.func105, Try.ntmps105
   go_wp2
   go_ret
   exact ⟨rfl, rfl⟩
  ·have h2 : l.length ≤ 15 := by omega
   have hyes := hide (fun (hs : ∀ j, j < l.length → signOk (l.getD j 0) = true) => labelOk_yes (l := l) (by omega) h2 hs)
   have hno := hide (fun (j : Nat) (hj : j < l.length) (hs : signOk (l.getD j 0) = false) => labelOk_sign hj hs)
   generalize hok : labelOk l = ok at *
   clear hok
   generalize hn : l.length = n at *
   have HN := hide hn
   clear hn
   have hn1 : (1 : Int) ≤ n := by omega
   go_enter Try.func105, Try.ntmps105
   go_wp2
   go_loop [3] (fun i => ∃ k : Nat, k ≤ n ∧ i = .int .i64 k ∧ Hid (∀ j, j < k → signOk (l.getD j 0) = true)) (fun i => n - (intOf i).toNat)
   case atStart => exact ⟨0, Nat.zero_le _, rfl, hide (fun j hj => absurd hj (Nat.not_lt_zero _))⟩
   case round =>
    obtain ⟨k, hk, rfl, hall⟩ := hrel
    by_cases hlt : k < n
    ·obtain ⟨b, off, rfl, hbl, hc⟩ := hL.here (k := k) (by rw [unhide HN]; exact hlt)
     have hone := hide (fun (hs : signOk (l.getD k 0) = true) => (show ∀ j, j < k + 1 → signOk (l.getD j 0) = true from fun j hj => by
      by_cases e : j = k
      ·subst e; exact hs
      ·exact unhide hall j (by omega)))
     have hnok := hide (fun (hs : signOk (l.getD k 0) = false) => unhide hno k hlt hs)
     generalize hx : l.getD k 0 = x at *
     rcases ssign_cases x with ⟨h1, h2⟩ | ⟨h1, h2⟩ | ⟨h1, h2, h3⟩ | ⟨h1, h2, h3, h4⟩ | ⟨h1, h2, rfl⟩ | ⟨h1, h2, h3⟩
     ·have hs : signOk x = true := decide_eq_true (by omega)
      go_wp2
      exact ⟨⟨k + 1, by omega, by go_num, hide (unhide hone hs)⟩, by simp [intOf]; omega⟩
     ·have hs : signOk x = false := decide_eq_false (by omega)
      have hq := unhide hnok hs
      subst hq
      have h8 : (x == 45) = false := by simp; omega
      have h5 : 48 ≤ x := by omega
      have h6 : ¬ x ≤ 57 := by omega
      have h7 : ¬ x ≤ 122 := by omega
      go_wp2
      go_ret
      exact ⟨rfl, rfl⟩
     ·have hs : signOk x = true := decide_eq_true (by omega)
      have h5 : ¬ 97 ≤ x := by omega
      go_wp2
      exact ⟨⟨k + 1, by omega, by go_num, hide (unhide hone hs)⟩, by simp [intOf]; omega⟩
     ·have hs : signOk x = false := decide_eq_false (by omega)
      have hq := unhide hnok hs
      subst hq
      have h8 : (x == 45) = false := by simp; omega
      have h5 : ¬ 97 ≤ x := by omega
      have h6 : ¬ x ≤ 57 := by omega
      go_wp2
      go_ret
      exact ⟨rfl, rfl⟩
     ·have hs : signOk 45 = true := rfl
      go_wp2
      exact ⟨⟨k + 1, by omega, by go_num, hide (unhide hone hs)⟩, by simp [intOf]; omega⟩
     ·have hs : signOk x = false := decide_eq_false (by omega)
      have hq := unhide hnok hs
      subst hq
      have h8 : (x == 45) = false := by simp; omega
      have h5 : ¬ 97 ≤ x := by omega
      have h6 : ¬ 48 ≤ x := by omega
      go_wp2
      go_ret
      exact ⟨rfl, rfl⟩
    ·obtain rfl : k = n := by omega
     have hq := unhide hyes (unhide hall)
     subst hq
     go_wp2
     go_ret
     exact ⟨rfl, rfl⟩
end Go.Proofs.Ytjgfljndeolmoaa
