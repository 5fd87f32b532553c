/-
  Plain facts: what a drawn name has, and how it fares while more is drawn. Plain facts: an append of a text's bytes; what may be read of a slice of bytes while a row grows.
-/
import Derived.Test.YtdghbcjlahjjdaaFnRecordOrderG06
import Derived.Test.YtdghbcjlahjjdaaFnRecordOrderG02
import Derived.Lib.AppendStr
import Derived.Lib.UnsafeStr
import Derived.Deep.RegionLaw
namespace Go.Proofs.Ytdghbcjlahjjdaa
open Go.RowKit
set_option linter.unusedVariables false

theorem OwnT.hasL {B : Nat} {el eb : TypeId} {w : World} {v : Value} {n : List (List Int)} (h : OwnT B el eb w v n) : HasL w v n := by
  obtain ⟨vs, h1, h2⟩ := h
  rcases h1.2 with ⟨rfl, hn⟩ | ⟨g, cap, cur, rfl, hb, hg, hn, hm, hs, ht⟩
  · exact .inl ⟨rfl, List.eq_nil_of_length_eq_zero hn⟩
  · refine .inr ⟨g, 0, cap, rfl, (World.ownsRow.lt h1 g rfl).2, hn, hm, fun i hi => ?_⟩
    obtain ⟨x, h3, h4, _⟩ := h2 i hi
    refine ⟨x, ?_, h4⟩
    rw [Nat.zero_add, World.ownsRow.cellAt h1 i (by omega), h3]
/-- Another block is written. -/
theorem OwnT.off {B q : Nat} {el eb t : TypeId} {w w' : World} {v : Value} {n : List (List Int)} {c : Array Value} (h : OwnT B el eb w v n) (hk : w.heap[q]? = some (.cells c t)) (h1 : t ≠ el) (h2 : t ≠ eb) (hg : w.grownBy w' (some q)) : OwnT B el eb w' v n := by
  obtain ⟨vs, h3, h4⟩ := h
  have hap := row_apart h3 hk h1
  refine ⟨vs, World.ownsRow.kept h3 hg (.inr hap), fun i hi => ?_⟩
  obtain ⟨x, h5, h6, h7⟩ := h4 i hi
  have key : ∀ g off len cap, x = .slice (some ⟨g, off, none⟩) len cap → w'.heap[g]? = w.heap[g]? := fun g off len cap e => by
    obtain ⟨c', fr, e1⟩ := h7 g off len cap e
    refine hg.block g (block_lt e1) ?_
    intro e'
    have e2 : g = q := by simpa using e'
    subst e2
    rw [hk] at e1
    simp at e1
    exact h2 e1.2.1
  refine ⟨x, h5, ?_, fun g off len cap e => ?_⟩
  · rcases h6 with h | ⟨g, off, cap, e, e1, e2, e3, e4⟩
    · exact .inl h
    · refine .inr ⟨g, off, cap, e, Nat.lt_of_lt_of_le e1 hg.size, e2, e3, fun i hi => ?_⟩
      have hc := e4 i hi
      unfold World.cell? at hc ⊢
      rw [key g off _ cap e]
      exact hc
  · obtain ⟨c', fr, e1⟩ := h7 g off len cap e
    exact ⟨c', fr, (key g off len cap e).trans e1⟩
theorem OwnT.cur {B g len cap : Nat} {a : Option Addr} {w w' : World} {v : Value} {n : List (List Int)} (h : OwnT B 22 5 w v n) (hc : Cur w g a len cap) (hg : w.grownBy w' (some g)) : OwnT B 22 5 w' v n := by
  obtain ⟨i, x, h1, _⟩ := hc
  exact h.off h1 (by decide) (by decide) hg
theorem results_cells2 {fn : Func} {p q : Tmp} {ty ty2 : TypeId} (h : fn.results = #[.cell p ty, .cell q ty2]) (tmps : Array Value) (P : Program) (w : World) :
    (results fn tmps).run P w =
      ((asAddr (tmps.getD p undef)).run P w).andThen fun a w₁ => ((loadVar ty a).run P w₁).andThen fun v w₂ => ((asAddr (tmps.getD q undef)).run P w₂).andThen fun b w₃ => ((loadVar ty2 b).run P w₃).andThen fun u w₄ => .ok (.tuple #[v, u]) w₄ := by
  simp only [results, h]
  simp [Sem.run_bind]
theorem results_cells2_row {P : Program} {fn : Func} {p q : Tmp} {ty ty2 : TypeId} (h : fn.results = #[.cell p ty, .cell q ty2]) (tmps : Array Value) (w : World) (g g2 : Nat) (t t2 : TypeId) (cs cs2 : Array Value) (fr fr2 : Nat × Nat) (d d2 : TypeDesc)
    (hp : tmps.getD p undef = .pointer (some ⟨g, 0, none⟩)) (hg : w.heap[g]? = some (.cells cs t fr)) (hq : tmps.getD q undef = .pointer (some ⟨g2, 0, none⟩)) (hg2 : w.heap[g2]? = some (.cells cs2 t2 fr2))
    (hu : P.underlying ty = some d) (hd : (match d with | .struct _ | .array _ _ => true | _ => false) = true) (hi : (P.info? ty).map (·.size) = some cs.size)
    (hu2 : P.underlying ty2 = some d2) (hd2 : (match d2 with | .struct _ | .array _ _ => true | _ => false) = true) (hi2 : (P.info? ty2).map (·.size) = some cs2.size) :
    (results fn tmps).run P w = .ok (.tuple #[.agg cs, .agg cs2]) w := by
  rw [results_cells2 h, hp, hq]
  simp [asAddr, run_loadVar_row w g t ty cs fr d hg hu hd hi, run_loadVar_row w g2 t2 ty2 cs2 fr2 d2 hg2 hu2 hd2 hi2]
end Go.Proofs.Ytdghbcjlahjjdaa

namespace Go.Proofs.Ytdghbcjlahjjdaa
open Go.RowKit
set_option linter.unusedVariables false

theorem strCells_text (t : List Int) (hb : ∀ x ∈ t, 0 ≤ x ∧ x ≤ 255) : Lib.strCells (strOfNums t) = t.map (Value.int .u8) := by
  rw [Lib.strCells_eq]
  unfold Lib.byteCells
  rw [strOfNums_data, List.map_map]
  apply List.map_congr_left
  intro x hx
  have := hb x hx
  simp only [Function.comp, UInt8.toNat_ofNat']
  congr 1
  omega

section
variable {P : Program} {w : World}

theorem step_append_text {ops : Array Oper} {o : Oper} {a : Act} {K : Act → World → Prop} {Q : Exit → Act → World → Prop} {E : Prop} (hgd : o.guard = none) (s x : Operand) (t u e : TypeId)
    (ho : o.op = .call { callee := .builtin .append, args := #[s, x], argTypes := #[t, u] }) (ht : P.underlying t = some (.slice e)) (hu : P.underlying u = some .string)
    (hinfo : (P.info? e).map (fun i => (i.zero, i.size, i.bytes)) = some (some (.int .u8 0), 1, 1))
    (base : Nat) (v : Value) (l m : List Int) (hs : a.eval s = v) (hx : a.eval x = .string (strOfNums m)) (hm : ∀ c ∈ m, 0 ≤ c ∧ c ≤ 255) (hown : Own base e w v l) (hlen : l.length + m.length ≤ 1099511627776) (hbase : base ≤ w.heap.size)
    (h : ∀ v' w', Own base e w' v' (l ++ m) → w.grownBy w' v.ownBlock → K (a.put o.dst v') w') : if Region.wanted o (yielded ops a.tmps) = true then Oper.wp P o a w K Q else E := by
  have hw : Region.wanted o (yielded ops a.tmps) = true := by simp [Region.wanted, hgd]
  rw [if_pos hw]
  obtain ⟨i0, hi, hz0, hz1, hz2⟩ := info_parts hinfo
  obtain ⟨v', w', hr', h2, h3, _⟩ := Lib.run_append_own_string (P := P) w base t u o.type e i0 ht hu hi hz0 hz1 hz2 v l.length (l.map (Value.int .u8)) hown (strOfNums m) (by rw [strOfNums_size]; unfold maxLen; omega) (by rw [strOfNums_size]; omega) hbase
  have h2' : Own base e w' v' (l ++ m) := by
    rw [strCells_text m hm, strOfNums_size] at h2
    simpa [Own] using h2
  unfold Oper.wp execOp
  simp only [ho, resolve, invoke, builtin, Sem.run_bind, Sem.run_pure, Result.andThen_ok, List.map_toArray, List.map_cons, List.map_nil, hs, hx, hr']
  exact h v' w' h2' h3
end

theorem Reads.keptS {w w' : World} {row : Option Nat} {v : Value} {m : List Int} (h : Reads w v m) (hg : w.grownBy w' row) (hb : ∀ ad n c, v = .slice (some ad) n c → ad.block < w.heap.size ∧ some ad.block ≠ row) : Reads w' v m := by
  rcases h with h | ⟨ad, cap, rfl, hc⟩
  · exact .inl h
  · refine .inr ⟨_, _, rfl, fun j hj => ?_⟩
    have hk := hb ad _ _ rfl
    have e : (ad.add j).block = ad.block := by unfold Addr.add; split <;> rfl
    rw [World.cell?_of_block (w := w) (by rw [e]; exact hg.block _ hk.1 hk.2)]
    exact hc j hj

/-- A part of a slice that has its bytes, and where it lies. -/
theorem Has.part {w : World} {g off len cap : Nat} {l : List Int} (h : Has w (.slice (some ⟨g, off, none⟩) len cap) l) {i m : Nat} (hi : i + m ≤ l.length) (o c : Nat) (ho : o = off + i ∨ m = 0) : Reads w (.slice (some ⟨g, o, none⟩) m c) ((l.drop i).take m) := by
  have hlen : ((l.drop i).take m).length = m := by simp; omega
  refine .inr ⟨⟨g, o, none⟩, c, by rw [hlen], fun j hj => ?_⟩
  rw [hlen] at hj
  obtain rfl : o = off + i := by omega
  rcases h with ⟨hv, _⟩ | ⟨g', off', cap', hv, _, _, _, hc⟩
  · cases hv
  · simp only [Value.slice.injEq, Option.some.injEq, Addr.mk.injEq] at hv
    obtain ⟨⟨rfl, rfl, _⟩, _, _⟩ := hv
    rw [Addr.add_lit, Nat.add_assoc, hc (i + j) (by omega)]
    congr 2
    simp only [List.getD_eq_getElem?_getD]
    rw [List.getElem?_take_of_lt hj, List.getElem?_drop]
theorem Has.head {w : World} {g off len cap : Nat} {l : List Int} (h : Has w (.slice (some ⟨g, off, none⟩) len cap) l) {i : Nat} (hi : i ≤ l.length) : Has w (.slice (some ⟨g, off, none⟩) i cap) (l.take i) := by
  have e : (l.take i).length = i := by simp; omega
  rcases h with ⟨hv, _⟩ | ⟨g', off', cap', hv, h1, h2, h3, hc⟩
  · cases hv
  · simp only [Value.slice.injEq, Option.some.injEq, Addr.mk.injEq] at hv
    obtain ⟨⟨rfl, rfl, _⟩, _, rfl⟩ := hv
    refine .inr ⟨g, off, cap, by rw [e], h1, by rw [e]; omega, h3, fun k hk => ?_⟩
    rw [e] at hk
    rw [hc k (by omega)]
    congr 2
    simp only [List.getD_eq_getElem?_getD]
    rw [List.getElem?_take_of_lt hk]
theorem Has.off {q : Nat} {eb t : TypeId} {w w' : World} {x : Value} {l : List Int} {c : Array Value} (h : Has w x l) (ht : Typed eb w x) (hk : w.heap[q]? = some (.cells c t)) (hne : t ≠ eb) (hg : w.grownBy w' (some q)) : Has w' x l ∧ Typed eb w' x := by
  have key : ∀ g off len cap, x = .slice (some ⟨g, off, none⟩) len cap → w'.heap[g]? = w.heap[g]? := fun g off len cap e => by
    obtain ⟨c', fr, h1⟩ := ht g off len cap e
    refine hg.block g (block_lt h1) ?_
    intro e'
    have e2 : g = q := by simpa using e'
    subst e2
    rw [hk] at h1
    simp at h1
    exact hne h1.2.1
  refine ⟨?_, fun g off len cap e => ?_⟩
  · rcases h with h | ⟨g, off, cap, e, h1, h2, h3, h4⟩
    · exact .inl h
    · refine .inr ⟨g, off, cap, e, Nat.lt_of_lt_of_le h1 hg.size, h2, h3, fun i hi => ?_⟩
      have hc := h4 i hi
      unfold World.cell? at hc ⊢
      rw [key g off _ cap e]
      exact hc
  · obtain ⟨c', fr, h1⟩ := ht g off len cap e
    exact ⟨c', fr, (key g off len cap e).trans h1⟩
theorem Has.cur {g len cap : Nat} {a : Option Addr} {w w' : World} {x : Value} {l : List Int} (h : Has w x l) (ht : Typed 5 w x) (hc : Cur w g a len cap) (hg : w.grownBy w' (some g)) : Has w' x l ∧ Typed 5 w' x := by
  obtain ⟨i, y, h1, _⟩ := hc
  exact h.off ht h1 (by decide) hg
theorem Has.slot {w : World} {x : Value} {l : List Int} (h : Has w x l) (hl : 1 ≤ l.length) : ∃ g off cap, x = .slice (some ⟨g, off, none⟩) l.length cap ∧ g < w.heap.size ∧ l.length ≤ cap ∧ cap ≤ maxLen := by
  rcases h with ⟨_, rfl⟩ | ⟨g, off, cap, e, h1, h2, h3, _⟩
  · simp at hl
  · exact ⟨g, off, cap, e, h1, h2, h3⟩
end Go.Proofs.Ytdghbcjlahjjdaa
