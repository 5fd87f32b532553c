/-
  Plain facts: an append of a text's bytes; what may be read of a slice of bytes while a row grows. Plain facts: a name's text, label by label. No program is named here.
-/
import Derived.Test.YtaconefooicplaaFnNameTextsG08
import Derived.Test.YtaconefooicplaaFnNameTextsG14
import Derived.Lib.AppendStr
import Derived.Lib.UnsafeStr
import Derived.Deep.RegionLaw
import Derived.Test.YtaconefooicplaaFnNameTextsG00
namespace Go.Proofs.Ytaconefooicplaa
open Go.RowKit
set_option linter.unusedVariables false

theorem strCells_text (t : List Int) (hb : ∀ x ∈ t, 0 ≤ x ∧ x ≤ 255) : Lib.strCells (strOfNums t) = t.map (Value.int .u8) := by
  rw [Lib.strCells_eq]
  unfold Lib.byteCells
  rw [strOfNums_data, List.map_map]
  apply List.map_congr_left
  intro x hx
  have := hb x hx
  simp only [Function.comp, UInt8.toNat_ofNat']
  congr 1
  omega

section
variable {P : Program} {w : World}

theorem step_append_text {ops : Array Oper} {o : Oper} {a : Act} {K : Act → World → Prop} {Q : Exit → Act → World → Prop} {E : Prop} (hgd : o.guard = none) (s x : Operand) (t u e : TypeId)
    (ho : o.op = .call { callee := .builtin .append, args := #[s, x], argTypes := #[t, u] }) (ht : P.underlying t = some (.slice e)) (hu : P.underlying u = some .string)
    (hinfo : (P.info? e).map (fun i => (i.zero, i.size, i.bytes)) = some (some (.int .u8 0), 1, 1))
    (base : Nat) (v : Value) (l m : List Int) (hs : a.eval s = v) (hx : a.eval x = .string (strOfNums m)) (hm : ∀ c ∈ m, 0 ≤ c ∧ c ≤ 255) (hown : Own base e w v l) (hlen : l.length + m.length ≤ 1099511627776) (hbase : base ≤ w.heap.size)
    (h : ∀ v' w', Own base e w' v' (l ++ m) → w.grownBy w' v.ownBlock → K (a.put o.dst v') w') : if Region.wanted o (yielded ops a.tmps) = true then Oper.wp P o a w K Q else E := by
  have hw : Region.wanted o (yielded ops a.tmps) = true := by simp [Region.wanted, hgd]
  rw [if_pos hw]
  obtain ⟨i0, hi, hz0, hz1, hz2⟩ := info_parts hinfo
  obtain ⟨v', w', hr', h2, h3, _⟩ := Lib.run_append_own_string (P := P) w base t u o.type e i0 ht hu hi hz0 hz1 hz2 v l.length (l.map (Value.int .u8)) hown (strOfNums m) (by rw [strOfNums_size]; unfold maxLen; omega) (by rw [strOfNums_size]; omega) hbase
  have h2' : Own base e w' v' (l ++ m) := by
    rw [strCells_text m hm, strOfNums_size] at h2
    simpa [Own] using h2
  unfold Oper.wp execOp
  simp only [ho, resolve, invoke, builtin, Sem.run_bind, Sem.run_pure, Result.andThen_ok, List.map_toArray, List.map_cons, List.map_nil, hs, hx, hr']
  exact h v' w' h2' h3
end

theorem Reads.keptS {w w' : World} {row : Option Nat} {v : Value} {m : List Int} (h : Reads w v m) (hg : w.grownBy w' row) (hb : ∀ ad n c, v = .slice (some ad) n c → ad.block < w.heap.size ∧ some ad.block ≠ row) : Reads w' v m := by
  rcases h with h | ⟨ad, cap, rfl, hc⟩
  · exact .inl h
  · refine .inr ⟨_, _, rfl, fun j hj => ?_⟩
    have hk := hb ad _ _ rfl
    have e : (ad.add j).block = ad.block := by unfold Addr.add; split <;> rfl
    rw [World.cell?_of_block (w := w) (by rw [e]; exact hg.block _ hk.1 hk.2)]
    exact hc j hj

/-- A part of a slice that has its bytes, and where it lies. -/
theorem Has.part {w : World} {g off len cap : Nat} {l : List Int} (h : Has w (.slice (some ⟨g, off, none⟩) len cap) l) {i m : Nat} (hi : i + m ≤ l.length) (o c : Nat) (ho : o = off + i ∨ m = 0) : Reads w (.slice (some ⟨g, o, none⟩) m c) ((l.drop i).take m) := by
  have hlen : ((l.drop i).take m).length = m := by simp; omega
  refine .inr ⟨⟨g, o, none⟩, c, by rw [hlen], fun j hj => ?_⟩
  rw [hlen] at hj
  obtain rfl : o = off + i := by omega
  rcases h with ⟨hv, _⟩ | ⟨g', off', cap', hv, _, _, _, hc⟩
  · cases hv
  · simp only [Value.slice.injEq, Option.some.injEq, Addr.mk.injEq] at hv
    obtain ⟨⟨rfl, rfl, _⟩, _, _⟩ := hv
    rw [Addr.add_lit, Nat.add_assoc, hc (i + j) (by omega)]
    congr 2
    simp only [List.getD_eq_getElem?_getD]
    rw [List.getElem?_take_of_lt hj, List.getElem?_drop]
theorem Has.head {w : World} {g off len cap : Nat} {l : List Int} (h : Has w (.slice (some ⟨g, off, none⟩) len cap) l) {i : Nat} (hi : i ≤ l.length) : Has w (.slice (some ⟨g, off, none⟩) i cap) (l.take i) := by
  have e : (l.take i).length = i := by simp; omega
  rcases h with ⟨hv, _⟩ | ⟨g', off', cap', hv, h1, h2, h3, hc⟩
  · cases hv
  · simp only [Value.slice.injEq, Option.some.injEq, Addr.mk.injEq] at hv
    obtain ⟨⟨rfl, rfl, _⟩, _, rfl⟩ := hv
    refine .inr ⟨g, off, cap, by rw [e], h1, by rw [e]; omega, h3, fun k hk => ?_⟩
    rw [e] at hk
    rw [hc k (by omega)]
    congr 2
    simp only [List.getD_eq_getElem?_getD]
    rw [List.getElem?_take_of_lt hk]
theorem Has.off {q : Nat} {eb t : TypeId} {w w' : World} {x : Value} {l : List Int} {c : Array Value} (h : Has w x l) (ht : Typed eb w x) (hk : w.heap[q]? = some (.cells c t)) (hne : t ≠ eb) (hg : w.grownBy w' (some q)) : Has w' x l ∧ Typed eb w' x := by
  have key : ∀ g off len cap, x = .slice (some ⟨g, off, none⟩) len cap → w'.heap[g]? = w.heap[g]? := fun g off len cap e => by
    obtain ⟨c', fr, h1⟩ := ht g off len cap e
    refine hg.block g (block_lt h1) ?_
    intro e'
    have e2 : g = q := by simpa using e'
    subst e2
    rw [hk] at h1
    simp at h1
    exact hne h1.2.1
  refine ⟨?_, fun g off len cap e => ?_⟩
  · rcases h with h | ⟨g, off, cap, e, h1, h2, h3, h4⟩
    · exact .inl h
    · refine .inr ⟨g, off, cap, e, Nat.lt_of_lt_of_le h1 hg.size, h2, h3, fun i hi => ?_⟩
      have hc := h4 i hi
      unfold World.cell? at hc ⊢
      rw [key g off _ cap e]
      exact hc
  · obtain ⟨c', fr, h1⟩ := ht g off len cap e
    exact ⟨c', fr, (key g off len cap e).trans h1⟩
theorem Has.cur {g len cap : Nat} {a : Option Addr} {w w' : World} {x : Value} {l : List Int} (h : Has w x l) (ht : Typed 5 w x) (hc : Cur w g a len cap) (hg : w.grownBy w' (some g)) : Has w' x l ∧ Typed 5 w' x := by
  obtain ⟨i, y, h1, _⟩ := hc
  exact h.off ht h1 (by decide) hg
theorem Has.slot {w : World} {x : Value} {l : List Int} (h : Has w x l) (hl : 1 ≤ l.length) : ∃ g off cap, x = .slice (some ⟨g, off, none⟩) l.length cap ∧ g < w.heap.size ∧ l.length ≤ cap ∧ cap ≤ maxLen := by
  rcases h with ⟨_, rfl⟩ | ⟨g, off, cap, e, h1, h2, h3, _⟩
  · simp at hl
  · exact ⟨g, off, cap, e, h1, h2, h3⟩
end Go.Proofs.Ytaconefooicplaa

namespace Go.Proofs.Ytaconefooicplaa
open Go.RowKit

/-- The first k labels, a dot behind each. -/
def dots (n : List (List Int)) (k : Nat) : List Int := ((n.take k).map (fun l => l ++ [46])).flatten

theorem dots_zero (n : List (List Int)) : dots n 0 = [] := by simp [dots]
theorem dots_succ (n : List (List Int)) (k : Nat) (h : k < n.length) : dots n (k + 1) = dots n k ++ n.getD k [] ++ [46] := by
  unfold dots
  rw [List.take_succ_eq_append_getElem h, List.map_append, List.flatten_append, show n.getD k [] = n[k] by simp [h]]
  simp only [List.map_cons, List.map_nil, List.flatten_cons, List.flatten_nil, List.append_nil, List.append_assoc]

theorem dots_length (n : List (List Int)) (h : nameOk n = true) (k : Nat) : (dots n k).length ≤ 16 * k := by
  induction k with
  | zero => simp [dots]
  | succ k ih =>
    by_cases hk : k < n.length
    · rw [dots_succ n k hk]
      have := (labelOk_length ((nameOk_parts h).2 k hk)).2
      simp only [List.length_append, List.length_cons, List.length_nil]
      omega
    · have e : dots n (k + 1) = dots n k := by unfold dots; rw [List.take_of_length_le (by omega), List.take_of_length_le (by omega)]
      rw [e]; omega

/-- A name's text. -/
def nameText (n : List (List Int)) : List Int := if nameOk n = true then (if n.length = 0 then [46] else dots n n.length) else []

theorem nameText_no {n : List (List Int)} (h : nameOk n = false) : nameText n = [] := by simp [nameText, h]
theorem nameText_root {n : List (List Int)} (h : nameOk n = true) (h0 : n.length = 0) : nameText n = [46] := by simp [nameText, h, h0]
theorem nameText_some {n : List (List Int)} (h : nameOk n = true) (h0 : n.length ≠ 0) : nameText n = dots n n.length := by simp [nameText, h, h0]
theorem nameText_length (n : List (List Int)) : (nameText n).length ≤ 96 := by
  unfold nameText
  split
  · rename_i h
    split
    · simp
    · have := dots_length n h n.length
      have := (nameOk_parts h).1
      omega
  · simp
end Go.Proofs.Ytaconefooicplaa
