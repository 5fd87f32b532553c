/-
  Plain facts: where an append to an own row of bytes leaves it: in its block, or in a new one. No program is named here. Plain facts: an append to a slice of bytes that is owned, or that is full. No program is named here.
-/
import Derived.Test.YtfpenlobnnlnfaaGreatDoorMsgTextG02
import Derived.Test.YtfpenlobnnlnfaaGreatDoorMsgTextG01
import Derived.Lib.AppendStr
import Derived.Lib.UnsafeStr
namespace Go.Proofs.YtfpenlobnnlnfaaGreatDoor
open Go.RowKit

section
variable {P : Program} {w : World}

theorem where_bytes {t ty e : TypeId} (ht : P.underlying t = some (.slice e)) (hinfo : (P.info? e).map (fun i => (i.zero, i.size, i.bytes)) = some (some (.int .u8 0), 1, 1))
  {base : Nat} {v vx : Value} {l m : List Int} (hown : Own base e w v l) (hr : Reads w vx m) (hlen : l.length + m.length ≤ 1099511627776) (hbase : base ≤ w.heap.size) {v' : Value} {w' : World}
  (hrun : (Builtin.append_ #[t, t] ty #[v, vx]).run P w = .ok v' w') : v'.ownBlock = v.ownBlock ∨ v'.ownBlock = some w.heap.size := by
 obtain ⟨i0, hi, hz0, hz1, hz2⟩ := info_parts hinfo
 rcases hr with ⟨rfl, rfl⟩ | ⟨ad, cap, rfl, hc⟩
 ·rw [run_append_owned_none w base t ty e i0 1 ht hi v l.length (l.map (Value.int .u8)) hown] at hrun
  simp only [Result.ok.injEq] at hrun
  left; rw [hrun.1]
 ·obtain ⟨v2, w2, h1, _, _, h4⟩ := run_append_own (P := P) w base t ty e i0 (.int .u8 0) 1 1 ht hi hz0 hz1 hz2 rfl (by decide) v l.length (l.map (Value.int .u8)) hown ad m.length cap (m.map (Value.int .u8)) (by simp) (news_of hc) (one_of m) (by unfold maxLen; omega) (by omega) hbase
  rcases hown.2 with ⟨rfl, h0⟩ | ⟨g, cp, cur, rfl, hbg, hg, hnc, hcm, hcs, htake⟩
  ·by_cases hm : m.length = 0
   ·rw [h1] at hrun
    simp only [Result.ok.injEq] at hrun
    have := h4.2 ⟨rfl, hm⟩
    rw [← hrun.1, this]
    exact .inl rfl
   ·rw [run_append_nil (P := P) w t ty e i0 (.int .u8 0) ht hi hz0 ad m.length cap (m.map (Value.int .u8)) (by simp [hz1]) (news_of hc) (by omega) (by omega) (by rw [hz2]; omega)] at hrun
    simp only [Result.ok.injEq] at hrun
    right; rw [← hrun.1]; rfl
  ·by_cases hroom : l.length + m.length ≤ cp
   ·rw [run_append_room (P := P) w t ty e i0 ht hi g l.length cp cur hg ad m.length cap (m.map (Value.int .u8)) (by simp [hz1]) (news_of hc) (one_of m) hroom (by rw [hz1]; simp; omega)] at hrun
    simp only [Result.ok.injEq] at hrun
    left; rw [← hrun.1]; rfl
   ·have holds : ∀ j u, (l.map (Value.int .u8))[j]? = some u → w.cell? ((⟨g, 0, none⟩ : Addr).add j) = some u := World.ownsRow.cells hown (g := g) rfl
    rw [run_append_grow (P := P) w t ty e i0 (.int .u8 0) ht hi hz0 ⟨g, 0, none⟩ l.length cp (l.map (Value.int .u8)) (by simp [hz1]) holds ad m.length cap (m.map (Value.int .u8)) (by simp [hz1]) (news_of hc) (by omega) (by omega) (growslice_fits (by omega) (by rw [hz2]; omega))] at hrun
    simp only [Result.ok.injEq] at hrun
    right; rw [← hrun.1]; rfl

theorem step_append_where {ops : Array Oper} {o : Oper} {a : Act} {K : Act → World → Prop} {Q : Exit → Act → World → Prop} {E : Prop} (hgd : o.guard = none) (s x : Operand) (t e : TypeId)
  (ho : o.op = .call { callee := .builtin .append, args := #[s, x], argTypes := #[t, t] }) (ht : P.underlying t = some (.slice e))
  (hinfo : (P.info? e).map (fun i => (i.zero, i.size, i.bytes)) = some (some (.int .u8 0), 1, 1))
  (base : Nat) (v vx : Value) (l m : List Int) (hs : a.eval s = v) (hx : a.eval x = vx) (hown : Own base e w v l) (hr : Reads w vx m) (hlen : l.length + m.length ≤ 1099511627776) (hbase : base ≤ w.heap.size)
  (h : ∀ v' w', Own base e w' v' (l ++ m) → w.grownBy w' v.ownBlock → (v'.ownBlock = v.ownBlock ∨ v'.ownBlock = some w.heap.size) → K (a.put o.dst v') w') : if Region.wanted o (yielded ops a.tmps) = true then Oper.wp P o a w K Q else E := by
 have hw : Region.wanted o (yielded ops a.tmps) = true := by simp [Region.wanted, hgd]
 rw [if_pos hw]
 obtain ⟨v', w', hr', h2, h3⟩ := run_append_bytes (P := P) t o.type e ht hinfo base v vx l m hown hr hlen hbase
 have h4 := where_bytes ht hinfo hown hr hlen hbase hr'
 unfold Oper.wp execOp
 simp only [ho, resolve, invoke, builtin, Sem.run_bind, Sem.run_pure, Result.andThen_ok, List.map_toArray, List.map_cons, List.map_nil, hs, hx, hr']
 exact h v' w' h2 h3 h4
theorem append_where {ops : Array Oper} {rest : List Oper} {o : Oper} {a : Act} {Q : Exit → Act → World → Prop} (hgd : o.guard = none) (s x : Operand) (t e : TypeId)
  (ho : o.op = .call { callee := .builtin .append, args := #[s, x], argTypes := #[t, t] }) (ht : P.underlying t = some (.slice e))
  (hinfo : (P.info? e).map (fun i => (i.zero, i.size, i.bytes)) = some (some (.int .u8 0), 1, 1))
  (base : Nat) (v vx : Value) (l m : List Int) (hs : a.eval s = v) (hx : a.eval x = vx) (hown : Own base e w v l) (hr : Reads w vx m) (hlen : l.length + m.length ≤ 1099511627776) (hbase : base ≤ w.heap.size)
  (h : ∀ v' w', Own base e w' v' (l ++ m) → w.grownBy w' v.ownBlock → (v'.ownBlock = v.ownBlock ∨ v'.ownBlock = some w.heap.size) → wpList P ops Q rest (a.put o.dst v') w') : wpList P ops Q (o :: rest) a w := by
 refine wpList_plain hgd fun _ hK => ?_
 obtain ⟨v', w', hr', h2, h3⟩ := run_append_bytes (P := P) t o.type e ht hinfo base v vx l m hown hr hlen hbase
 have h4 := where_bytes ht hinfo hown hr hlen hbase hr'
 unfold Oper.wp execOp
 simp only [ho, resolve, invoke, builtin, Sem.run_bind, Sem.run_pure, Result.andThen_ok, List.map_toArray, List.map_cons, List.map_nil, hs, hx, hr']
 exact hK _ _ (h v' w' h2 h3 h4)
end

structure Moved (w w' : World) (v v' : Value) : Prop where
 kept : w.grownBy w' v.ownBlock
 own : v'.ownBlock = v.ownBlock ∨ ∀ q, v'.ownBlock = some q → w.heap.size ≤ q
theorem Moved.refl (w : World) (v : Value) : Moved w w v v := ⟨⟨rfl, rfl, rfl, Nat.le_refl _, fun _ _ _ => rfl⟩, .inl rfl⟩
theorem Moved.step {w a b : World} {v u u' : Value} (h : Moved w a v u) (g : a.grownBy b u.ownBlock) (hw : u'.ownBlock = u.ownBlock ∨ u'.ownBlock = some a.heap.size) : Moved w b v u' := by
 refine ⟨⟨g.os.trans h.kept.os, g.tape.trans h.kept.tape, g.output.trans h.kept.output, Nat.le_trans h.kept.size g.size, fun k hk hne => ?_⟩, ?_⟩
 ·refine (g.block k (Nat.lt_of_lt_of_le hk h.kept.size) (fun e => ?_)).trans (h.kept.block k hk hne)
  rcases h.own with h1 | h1
  ·rw [h1] at e; exact hne e
  ·have := h1 k e.symm; omega
 ·rcases hw with hw | hw
  ·rw [hw]; exact h.own
  ·right
   intro q hq
   rw [hw] at hq
   have := h.kept.size
   simp at hq
   omega
theorem Moved.below {w a b : World} {v u : Value} (h : Moved w a v u) (hb : Below a.heap.size a b) : Moved w b v u :=
 ⟨⟨hb.os.trans h.kept.os, hb.tape.trans h.kept.tape, hb.output.trans h.kept.output, Nat.le_trans h.kept.size hb.size, fun k hk hne => (hb.block k (Nat.lt_of_lt_of_le hk h.kept.size)).trans (h.kept.block k hk hne)⟩, h.own⟩
end Go.Proofs.YtfpenlobnnlnfaaGreatDoor

namespace Go.Proofs.YtfpenlobnnlnfaaGreatDoor
open Go.RowKit
set_option linter.unusedVariables false

def App (B : Nat) (e : TypeId) (w : World) (v : Value) (l : List Int) : Prop :=
 Own B e w v l ∨ ∃ a, v = .slice (some a) l.length l.length ∧ B ≤ a.block ∧ a.block < w.heap.size ∧ ∀ j, j < l.length → w.cell? (a.add j) = some (.int .u8 (l.getD j 0))
theorem App.reads {B : Nat} {e : TypeId} {w : World} {v : Value} {l : List Int} (h : App B e w v l) : Reads w v l := by
 rcases h with h | ⟨a, rfl, _, _, hc⟩
 ·exact h.reads
 ·exact .inr ⟨a, _, rfl, hc⟩
theorem App.mono {B B' : Nat} {e : TypeId} {w : World} {v : Value} {l : List Int} (h : App B e w v l) (hB : B' ≤ B) : App B' e w v l := by
 rcases h with h | ⟨a, rfl, hb, hc⟩
 ·exact .inl (h.mono hB)
 ·exact .inr ⟨a, rfl, by omega, hc⟩
theorem App.below {B : Nat} {e : TypeId} {w w' : World} {v : Value} {l : List Int} (h : App B e w v l) (hb : Below w.heap.size w w') : App B e w' v l := by
 rcases h with h | ⟨a, rfl, h1, h2, hc⟩
 ·exact .inl (h.below hb)
 ·exact .inr ⟨a, rfl, h1, Nat.lt_of_lt_of_le h2 hb.size, fun j hj => by
   have := hc j hj
   have hl := cell_lt this
   rw [hb.cell hl]; exact this⟩
theorem App.lt {B : Nat} {e : TypeId} {w : World} {v : Value} {l : List Int} (h : App B e w v l) : ∀ k, v.ownBlock = some k → B ≤ k ∧ k < w.heap.size := by
 rcases h with h | ⟨a, rfl, h1, h2, hc⟩
 ·exact h.lt
 ·intro k hk
  simp only [Value.ownBlock, Option.some.injEq] at hk
  omega
theorem App.alloc {B : Nat} {e : TypeId} {w : World} {v : Value} {l : List Int} (h : App B e w v l) (o : Obj) : App B e (w.alloc o) v l := h.below (UI o)

theorem run_append_app {P : Program} {w : World} (t ty e : TypeId) (ht : P.underlying t = some (.slice e))
  (hinfo : (P.info? e).map (fun i => (i.zero, i.size, i.bytes)) = some (some (.int .u8 0), 1, 1))
  (base : Nat) (v vx : Value) (l m : List Int) (hown : App base e w v l) (hr : Reads w vx m) (h0 : 0 < m.length) (hlen : l.length + m.length ≤ 1099511627776) (hbase : base ≤ w.heap.size) :
  ∃ v' w', (Builtin.append_ #[t, t] ty #[v, vx]).run P w = .ok v' w' ∧ Own base e w' v' (l ++ m) ∧ w.grownBy w' v.ownBlock ∧ (v'.ownBlock = v.ownBlock ∨ v'.ownBlock = some w.heap.size) := by
 obtain ⟨i0, hi, hz0, hz1, hz2⟩ := info_parts hinfo
 have hr0 := hr
 rcases hr with ⟨rfl, rfl⟩ | ⟨ad, cap, rfl, hc⟩
 ·simp at h0
 rcases hown with hown | ⟨a, rfl, hb, _, ho⟩
 ·obtain ⟨v', w', h1, h2, h3, _⟩ := run_append_own (P := P) w base t ty e i0 (.int .u8 0) 1 1 ht hi hz0 hz1 hz2 rfl (by decide) v l.length (l.map (Value.int .u8)) hown ad m.length cap (m.map (Value.int .u8)) (by simp) (news_of hc) (one_of m) (by unfold maxLen; omega) (by omega) hbase
  exact ⟨v', w', h1, by simpa [Own] using h2, h3, where_bytes ht hinfo hown hr0 hlen hbase h1⟩
 ·have hrun := run_append_grow (P := P) w t ty e i0 (.int .u8 0) ht hi hz0 a l.length l.length (l.map (Value.int .u8)) (by simp [hz1]) (news_of ho) ad m.length cap (m.map (Value.int .u8)) (by simp [hz1]) (news_of hc) (by omega) (by omega) (growslice_fits (by omega) (by rw [hz2]; omega))
  refine ⟨_, _, hrun, ?_, ?_, .inr rfl⟩
  ·have hgc := grownCap_ge w (l.length + m.length) l.length e
   have hgm := grownCap_le_maxLen w (l.length + m.length) l.length e (by unfold maxLen; omega)
   refine ⟨by simp, .inr ⟨w.heap.size, _, _, by rw [List.length_append], hbase, heap_alloc_new w.drew _, by rw [List.length_append]; exact hgc, hgm, ?_, ?_⟩⟩
   ·simp only [Array.size_append, List.size_toArray, List.length_map, size_zeroCells, Value.cells, Nat.mul_one]
    first | omega | (simp; omega)
   ·simp only [Array.toList_append, List.map_append, Nat.mul_one, List.length_append]
    rw [List.append_assoc, ← List.append_assoc, List.take_append_of_le_length (by simp), List.take_of_length_le (by simp)]
  ·exact ⟨rfl, rfl, rfl, by show w.heap.size ≤ (w.drew.heap.push _).size; rw [Array.size_push]; exact Nat.le_succ _, fun k hk _ => heap_alloc_old w.drew _ hk⟩
theorem app_wp {P : Program} {w : World} {o : Oper} {a : Act} {K : Act → World → Prop} {Q : Exit → Act → World → Prop} (s x : Operand) (t e : TypeId)
  (ho : o.op = .call { callee := .builtin .append, args := #[s, x], argTypes := #[t, t] }) (ht : P.underlying t = some (.slice e))
  (hinfo : (P.info? e).map (fun i => (i.zero, i.size, i.bytes)) = some (some (.int .u8 0), 1, 1))
  (base : Nat) (v vx : Value) (l m : List Int) (hs : a.eval s = v) (hx : a.eval x = vx) (hown : App base e w v l) (hr : Reads w vx m) (h0 : 0 < m.length) (hlen : l.length + m.length ≤ 1099511627776) (hbase : base ≤ w.heap.size)
  (h : ∀ v' w', Own base e w' v' (l ++ m) → w.grownBy w' v.ownBlock → (v'.ownBlock = v.ownBlock ∨ v'.ownBlock = some w.heap.size) → K (a.put o.dst v') w') : Oper.wp P o a w K Q := by
 obtain ⟨v', w', hr', h2, h3, h4⟩ := run_append_app (P := P) t o.type e ht hinfo base v vx l m hown hr h0 hlen hbase
 unfold Oper.wp execOp
 simp only [ho, resolve, invoke, builtin, Sem.run_bind, Sem.run_pure, Result.andThen_ok, List.map_toArray, List.map_cons, List.map_nil, hs, hx, hr']
 exact h v' w' h2 h3 h4
theorem strCells_int (t : List Int) (hb : ∀ x ∈ t, 0 ≤ x ∧ x ≤ 255) : Lib.strCells (strOfNums t) = t.map (Value.int .u8) := by
 rw [Lib.strCells_eq]
 unfold Lib.byteCells
 rw [strOfNums_data, List.map_map]
 apply List.map_congr_left
 intro x hx
 have := hb x hx
 simp only [Function.comp, UInt8.toNat_ofNat']
 congr 1
 omega
theorem apps_wp {P : Program} {w : World} {o : Oper} {a : Act} {K : Act → World → Prop} {Q : Exit → Act → World → Prop} (s x : Operand) (t u e : TypeId)
  (ho : o.op = .call { callee := .builtin .append, args := #[s, x], argTypes := #[t, u] }) (ht : P.underlying t = some (.slice e)) (hu : P.underlying u = some .string)
  (hinfo : (P.info? e).map (fun i => (i.zero, i.size, i.bytes)) = some (some (.int .u8 0), 1, 1))
  (base : Nat) (v : Value) (l m : List Int) (hs : a.eval s = v) (hx : a.eval x = .string (strOfNums m)) (hm : ∀ c ∈ m, 0 ≤ c ∧ c ≤ 255) (hown : Own base e w v l) (h0 : 0 < l.length) (hlen : l.length + m.length ≤ 1099511627776) (hbase : base ≤ w.heap.size)
  (h : ∀ v' w', Own base e w' v' (l ++ m) → w.grownBy w' v.ownBlock → (v'.ownBlock = v.ownBlock ∨ v'.ownBlock = some w.heap.size) → K (a.put o.dst v') w') : Oper.wp P o a w K Q := by
 obtain ⟨i0, hi, hz0, hz1, hz2⟩ := info_parts hinfo
 obtain ⟨v', w', hr', h2, h3, _⟩ := Lib.run_append_own_string (P := P) w base t u o.type e i0 ht hu hi hz0 hz1 hz2 v l.length (l.map (Value.int .u8)) hown (strOfNums m) (by rw [strOfNums_size]; unfold maxLen; omega) (by rw [strOfNums_size]; omega) hbase
 have h2' : Own base e w' v' (l ++ m) := by
  rw [strCells_int m hm, strOfNums_size] at h2
  simpa [Own] using h2
 have h4 : v'.ownBlock = v.ownBlock ∨ v'.ownBlock = some w.heap.size := by
  have hrun := hr'
  have hsz := strOfNums_size m
  rcases hown.2 with ⟨rfl, e0⟩ | ⟨g, cp, cur, rfl, hbg, hg, hnc, hcm, hcs, htake⟩
  ·omega
  ·by_cases hroom : l.length + (strOfNums m).size ≤ cp
   ·rw [Lib.run_append_room_string (P := P) w t u o.type e i0 ht hu hi hz1 g l.length cp cur hg (strOfNums m) hroom (by simp at hcs; omega)] at hrun
    simp only [Result.ok.injEq] at hrun
    left; rw [← hrun.1]; rfl
   ·have holds : ∀ j u, (l.map (Value.int .u8))[j]? = some u → w.cell? ((⟨g, 0, none⟩ : Addr).add j) = some u := World.ownsRow.cells hown (g := g) rfl
    rw [Lib.run_append_grow_string (P := P) w t u o.type e i0 (.int .u8 0) ht hu hi hz0 ⟨g, 0, none⟩ l.length cp (l.map (Value.int .u8)) (by rw [hz1]; simp) holds (strOfNums m) (by omega) (by omega) (by rw [hz2]; exact growslice_fits (by omega) (by omega))] at hrun
    simp only [Result.ok.injEq] at hrun
    right; rw [← hrun.1]; rfl
 unfold Oper.wp execOp
 simp only [ho, resolve, invoke, builtin, Sem.run_bind, Sem.run_pure, Result.andThen_ok, List.map_toArray, List.map_cons, List.map_nil, hs, hx, hr']
 exact h v' w' h2' h3 h4

def Sep (q : Nat) (e : TypeId) (w : World) : Prop := w.heap[q]? = some (.cells #[.int .u8 32] e)
theorem Sep.reads {q : Nat} {e : TypeId} {w : World} (h : Sep q e w) : Reads w (.slice (some ⟨q, 0, none⟩) 1 1) [32] := .inr ⟨_, 1, rfl, fun j hj => by
 obtain rfl : j = 0 := by simpa using hj
 rw [Addr.add_lit]
 exact VE h 0⟩
theorem Sep.below {q : Nat} {e : TypeId} {w w' : World} (h : Sep q e w) (hb : Below w.heap.size w w') : Sep q e w' := UE hb h
theorem Sep.grown {q : Nat} {e : TypeId} {w w' : World} {r : Option Nat} (h : Sep q e w) (g : w.grownBy w' r) (hne : r ≠ some q) : Sep q e w' := (g.block q (VC h) (Ne.symm hne)).trans h
theorem apart_next {q : Nat} {e : TypeId} {w : World} {v v' : Value} (h : Sep q e w) (hne : v.ownBlock ≠ some q) (hw : v'.ownBlock = v.ownBlock ∨ v'.ownBlock = some w.heap.size) : v'.ownBlock ≠ some q := by
 have hq := VC h
 rcases hw with e1 | e1
 ·rw [e1]; exact hne
 ·rw [e1]
  intro c
  cases c
  omega
end Go.Proofs.YtfpenlobnnlnfaaGreatDoor
