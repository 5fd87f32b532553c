/-
  Plain facts: lists of texts of the call's own: one more behind, two joined, a part. No program is named here. The blocks that the specification's l7block works on.
-/
import Derived.Test.YtkhiklemhkeakaaDoorFnSumsG04
import Derived.Laws.ResultCell
import Derived.Laws.Rows
import Derived.Test.YtkhiklemhkeakaaDoorFnSumsG07
import Derived.Test.YtkhiklemhkeakaaDoorFnSumsG08
import Derived.Test.YtkhiklemhkeakaaDoorFnSumsG05
import Derived.Test.YtkhiklemhkeakaaDoorFnSumsG03
namespace Go.Proofs.YtkhiklemhkeakaaDoor
open Go.RowKit

/-- One more text behind an own list of texts. -/
theorem OwnL.snoc {B : Nat} {el eb : TypeId} {w w' : World} {v v' u : Value} {n : List (List Int)} {l : List Int} {vs : List Value} (ho : w.ownsRow B el 1 v n.length vs)
    (hu : ∀ i, i < n.length → ∃ x, vs[i]? = some x ∧ Own B eb w x (n.getD i [])) (hd : ∀ (i j : Nat) (x x' : Value), i < j → vs[i]? = some x → vs[j]? = some x' → x.ownBlock = none ∨ x.ownBlock ≠ x'.ownBlock)
    (hul : Own B eb w u l) (hnew : ∀ (i : Nat) (x : Value), vs[i]? = some x → x.ownBlock = none ∨ x.ownBlock ≠ u.ownBlock)
    (ho' : w'.ownsRow B el 1 v' (n.length + 1) (vs ++ [u])) (hg : w.grownBy w' v.ownBlock) (hne : el ≠ eb) : OwnL B el eb w' v' (n ++ [l]) := by
  have hl : vs.length = n.length := by have := ho.1; simpa using this
  have apart : ∀ x m, Own B eb w x m → x.ownBlock = none ∨ x.ownBlock ≠ v.ownBlock := by
    intro x m hx
    rcases hx.2 with ⟨rfl, _⟩ | ⟨g, cap, cur, rfl, _, hgx, _⟩
    · exact .inl rfl
    · right
      intro e
      rcases ho.2 with ⟨rfl, _⟩ | ⟨g', cap', cur', rfl, _, hgv, _⟩
      · simp [Value.ownBlock] at e
      · simp [Value.ownBlock] at e
        subst e
        rw [hgx] at hgv
        simp at hgv
        exact hne hgv.2.symm
  refine ⟨vs ++ [u], by simpa using ho', fun i hi => ?_, fun i j x x' hij hx hx' => ?_⟩
  · simp at hi
    by_cases e : i < n.length
    · obtain ⟨x, h1, h2⟩ := hu i e
      refine ⟨x, by rw [List.getElem?_append_left (by omega)]; exact h1, ?_⟩
      have e2 : (n ++ [l]).getD i [] = n.getD i [] := by simp [List.getD, List.getElem?_append_left e]
      rw [e2]
      exact h2.kept hg (apart x _ h2)
    · obtain rfl : i = n.length := by omega
      refine ⟨u, by rw [List.getElem?_append_right (by omega)]; simp [hl], ?_⟩
      have e2 : (n ++ [l]).getD n.length [] = l := by simp [List.getD]
      rw [e2]
      exact hul.kept hg (apart u _ hul)
  · have hj : j < (vs ++ [u]).length := (List.getElem?_eq_some_iff.1 hx').1
    simp at hj
    rw [List.getElem?_append_left (by omega)] at hx
    by_cases e : j < vs.length
    · rw [List.getElem?_append_left e] at hx'
      exact hd i j x x' hij hx hx'
    · obtain rfl : j = vs.length := by omega
      rw [List.getElem?_append_right (by omega)] at hx'
      simp at hx'
      subst hx'
      exact hnew i x hx


theorem ownsRow_kept' {B n : Nat} {e : TypeId} {w w' : World} {v : Value} {xs : List Value} (h : w.ownsRow B e 1 v n xs) (hb : Below w.heap.size w w') : w'.ownsRow B e 1 v n xs := World.ownsRow.kept h (grown_of_below hb) (by cases hq : v.ownBlock with | none => exact .inl rfl | some q => exact .inr (by simp))

/-- A row isn't a block of another type. -/
theorem row_apart {B b n : Nat} {e t : TypeId} {w : World} {v : Value} {xs : List Value} {c : Array Value} (h : w.ownsRow B e 1 v n xs) (hb : w.heap[b]? = some (.cells c t)) (hne : t ≠ e) : v.ownBlock ≠ some b := by
  intro hq
  rcases h.2 with ⟨rfl, _⟩ | ⟨g, cap, cur, rfl, _, hg, _⟩
  · simp [Value.ownBlock] at hq
  · simp [Value.ownBlock] at hq
    subst hq
    rw [hg] at hb
    simp at hb
    exact hne hb.2.symm

/-- An own list of texts, one more text put behind it in place: what the append leaves. The world W is the one in which the text u has been made and the row of the append's second argument laid. -/
theorem snoc_step {B q m : Nat} {el eb t : TypeId} {w W w' : World} {v v' u : Value} {n : List (List Int)} {l : List Int} {vs : List Value} {c : Array Value} (g : W.grownBy w' v.ownBlock) (ho' : w'.ownsRow B el 1 v' m (vs ++ [u])) (hm : m = vs.length + 1)
    (hvs : w.ownsRow B el 1 v n.length vs) (hva : ∀ i, i < n.length → ∃ x, vs[i]? = some x ∧ Own B eb w x (n.getD i [])) (hvd : ∀ (i j : Nat) (x x' : Value), i < j → vs[i]? = some x → vs[j]? = some x' → x.ownBlock = none ∨ x.ownBlock ≠ x'.ownBlock)
    (hb : Below w.heap.size w W) (hu : Own w.heap.size eb W u l) (hB : B ≤ w.heap.size) (hne : el ≠ eb) (hk : W.heap[q]? = some (.cells c t)) (hnt : t ≠ el) :
    OwnL B el eb w' v' (n ++ [l]) ∧ w'.heap[q]? = some (.cells c t) ∧ Below B w w' := by
  have hl : vs.length = n.length := by have := hvs.1; simpa using this
  have hW := ownsRow_kept' hvs hb
  refine ⟨?_, block_grown g hk (row_apart hW hk hnt), ?_⟩
  · refine OwnL.snoc (w := W) hW (fun i hi => ?_) hvd (hu.mono hB) (fun i x hx => ?_) (by rw [hm, hl] at ho'; exact ho') g hne
    · obtain ⟨x, h1, h2⟩ := hva i hi
      exact ⟨x, h1, h2.below hb⟩
    · have hi : i < n.length := by rw [← hl]; exact (List.getElem?_eq_some_iff.1 hx).1
      obtain ⟨x', h1, h2⟩ := hva i hi
      rw [hx] at h1
      obtain rfl : x = x' := by simpa using h1
      exact own_apart h2 hu (Nat.le_refl _)
  · exact (hb.mono hB).trans ((Below.refl B W).grown g (Nat.le_trans hB hb.size) (fun k hk => (World.ownsRow.lt hW k hk).1))

/-- An append to a new empty row of bytes leaves what was there. -/
theorem lit_grown {w w' : World} {o : Obj} {n c : Nat} (g : (w.alloc o).grownBy w' (Value.slice (some ⟨w.heap.size, 0, none⟩) n c).ownBlock) : Below w.heap.size w w' :=
  (below_alloc o).grown g (below_alloc o).size (fun k hk => by simp [Value.ownBlock] at hk; omega)

/-- Two new blocks, as a function's box and its result lie. -/
theorem box2 (w : World) (o : Obj) (c2 : Array Value) (t2 : TypeId) :
    ((w.alloc o).alloc (.cells c2 t2)).heap.size = w.heap.size + 2 ∧ ((w.alloc o).alloc (.cells c2 t2)).heap[w.heap.size]? = some o ∧ ((w.alloc o).alloc (.cells c2 t2)).heap[w.heap.size + 1]? = some (.cells c2 t2) := by
  have e1 : (w.alloc o).heap.size = w.heap.size + 1 := by show (w.heap.push o).size = _; simp
  have e2 : ((w.alloc o).alloc (.cells c2 t2)).heap.size = w.heap.size + 1 + 1 := by rw [← e1]; show ((w.alloc o).heap.push _).size = _; simp
  refine ⟨e2, block_kept (below_alloc _) (heap_alloc_new w o), ?_⟩
  rw [← e1]; exact heap_alloc_new _ _
theorem below2 (w : World) (o o' : Obj) : Below w.heap.size w ((w.alloc o).alloc o') := (below_alloc _).alloc (below_alloc _).size _

/-- A struct that lies in a block of its own and a value, as a function's two results. -/
theorem results_cell_tmp_row {P : Program} {fn : Func} {p u : Tmp} {ty : TypeId} (h : fn.results = #[.cell p ty, .tmp u]) (tmps : Array Value) (w : World) (g : Nat) (t : TypeId) (cs : Array Value) (fr : Nat × Nat) (d : TypeDesc)
    (hp : tmps.getD p undef = .pointer (some ⟨g, 0, none⟩)) (hg : w.heap[g]? = some (.cells cs t fr))
    (hu : P.underlying ty = some d) (hd : (match d with | .struct _ | .array _ _ => true | _ => false) = true) (hi : (P.info? ty).map (·.size) = some cs.size) :
    (results fn tmps).run P w = .ok (.tuple #[.agg cs, tmps.getD u undef]) w := by
  rw [results_cell_tmp h, hp]
  simp [asAddr, run_loadVar_row w g t ty cs fr d hg hu hd hi]

/-- n without its first label. -/
def parentOf (n : List (List Int)) : List (List Int) × Bool := if nameOk n = true ∧ n.length ≠ 0 then (n.drop 1, true) else ([], false)
theorem parentOf_no {n : List (List Int)} (h : nameOk n = false) : parentOf n = ([], false) := by unfold parentOf; rw [if_neg (by simp [h])]
theorem parentOf_root {n : List (List Int)} (h : n.length = 0) : parentOf n = ([], false) := by unfold parentOf; rw [if_neg (by simp [h])]
theorem parentOf_yes {n : List (List Int)} (h : nameOk n = true) (h0 : n.length ≠ 0) : parentOf n = (n.drop 1, true) := by unfold parentOf; rw [if_pos ⟨h, h0⟩]
theorem parentOf_bound (n : List (List Int)) : (parentOf n).1.length ≤ 6 ∧ ∀ i, i < (parentOf n).1.length → ((parentOf n).1.getD i []).length ≤ 15 := by
  unfold parentOf
  split
  · rename_i h
    obtain ⟨h1, h2⟩ := nameOk_parts h.1
    refine ⟨by simp; omega, fun i hi => ?_⟩
    simp at hi
    have e : (n.drop 1).getD i [] = n.getD (1 + i) [] := by simp [List.getD, Nat.add_comm]
    rw [e]
    exact (labelOk_length (h2 (1 + i) (by omega))).2
  · simp
end Go.Proofs.YtkhiklemhkeakaaDoor

namespace Go.Proofs.YtkhiklemhkeakaaDoor
open Go.RowKit
set_option linter.unusedVariables false

theorem l7turn_b (x : BitVec 32) (n : Nat) (hn : n < 32) (w : World) :
    Calls Tryd.prog 43 #[.int .u32 (wv x), .int .i64 (n : Int)] w fun e w' => e = .returned (.int .u32 (wv (turnR x n))) ∧ Below w.heap.size w w' :=
  (l7turn_is x n hn w).mono (fun e w' ⟨he, m, hw⟩ => ⟨he, hw ▸ below_draws m⟩)
/-- The blocks that l7block works on. -/
structure In7 (n : Nat) (w wr : World) (cs cw : List (BitVec 32)) : Prop where
  fh : wr.heap[n]? = some (.cells (cellsU cs) 34)
  fr : wr.heap[n + 1]? = some (.cells (cellsU (List.replicate 8 0)) 34)
  fw : wr.heap[n + 1 + 1]? = some (.cells (cellsU cw) 54)
  fb : Below w.heap.size w wr
theorem In7.next {n : Nat} {w wr wr' : World} {cs cw : List (BitVec 32)} (h : In7 n w wr cs cw) (b : Below wr.heap.size wr wr') : In7 n w wr' cs cw := ⟨block_kept b h.fh, block_kept b h.fr, block_kept b h.fw, below_next h.fb b⟩
theorem In7.setW {n : Nat} {w wr : World} {cs cw : List (BitVec 32)} (h : In7 n w wr cs cw) (hn : w.heap.size = n) (k : Nat) (x : BitVec 32) : In7 n w (wr.setCell ⟨n + 1 + 1, k, none⟩ (.int .u32 (wv x))) cs (cw.set k x) :=
  have u := outside_set wr (n + 1 + 1) k (.int .u32 (wv x))
  ⟨u.kept h.fh (by omega), u.kept h.fr (by omega), arr_set h.fw k x, u.below h.fb (by omega)⟩
theorem In7.setH {n : Nat} {w wr : World} {cs cw : List (BitVec 32)} (h : In7 n w wr cs cw) (hn : w.heap.size = n) (k : Nat) (x : BitVec 32) : In7 n w (wr.setCell ⟨n, k, none⟩ (.int .u32 (wv x))) (cs.set k x) cw :=
  have u := outside_set wr n k (.int .u32 (wv x))
  ⟨arr_set h.fh k x, u.kept h.fr (by omega), u.kept h.fw (by omega), u.below h.fb (by omega)⟩
theorem In7.out {n : Nat} {w wr wr' : World} {cs cw : List (BitVec 32)} {q : Nat} (h : In7 n w wr cs cw) (hn : w.heap.size = n) (hq : n + 1 + 1 < q) (u : Outside q (q + 1) wr wr') : In7 n w wr' cs cw :=
  ⟨u.kept h.fh (by omega), u.kept h.fr (by omega), u.kept h.fw (by omega), u.below h.fb (by omega)⟩
theorem list_loadU {P : Program} {ops : Array Oper} {rest : List Oper} {o : Oper} {a : Act} {w : World} {Q : Exit → Act → World → Prop} (hgd : o.guard = none) (ty : TypeId) (x : Operand) (ho : o.op = .load ty x)
    (b : Nat) (hx : a.eval x = .pointer (some ⟨b, 0, none⟩)) (ws : List (BitVec 32)) {t : TypeId} (hk : w.heap[b]? = some (.cells (cellsU ws) t)) {d : TypeDesc} (hu : P.underlying ty = some d) (hd : d.isRow = true) (hi : (P.info? ty).map (·.size) = some ws.length)
    (h : wpList P ops Q rest (a.put o.dst (.agg (cellsU ws))) w) : wpList P ops Q (o :: rest) a w := by
  refine wpList_load_mid hgd ty x ho b 0 hx (cellsU ws).toList d (fun j v hv => ?_) hu hd (by rw [hi]; simp [cellsU]) h
  rw [Nat.zero_add, block_cell hk]
  simpa using hv
theorem wp_loadU {P : Program} {o : Oper} {a : Act} {w : World} {K : Act → World → Prop} {Q : Exit → Act → World → Prop} (ty : TypeId) (x : Operand) (ho : o.op = .load ty x)
    (b : Nat) (hx : a.eval x = .pointer (some ⟨b, 0, none⟩)) (ws : List (BitVec 32)) {t : TypeId} (hk : w.heap[b]? = some (.cells (cellsU ws) t)) {d : TypeDesc} (hu : P.underlying ty = some d) (hd : d.isRow = true) (hi : (P.info? ty).map (·.size) = some ws.length)
    (h : K (a.put o.dst (.agg (cellsU ws))) w) : o.wp P a w K Q := by
  refine wp_load_mid ty x ho b 0 hx (cellsU ws).toList d (fun j v hv => ?_) hu hd (by rw [hi]; simp [cellsU]) h
  rw [Nat.zero_add, block_cell hk]
  simpa using hv
theorem arr_or {w : World} {b : Nat} {ws : List (BitVec 32)} {t : TypeId} {k : Nat} {x : BitVec 32} (hb : w.heap[b]? = some (.cells (cellsU ws) t) ∨ w.heap[b]? = some (.cells (cellsU (ws.set k x)) t)) {p : Nat} (hp : p < ws.length) (hn : p ≠ k) : w.cell? ⟨b, p, none⟩ = some (.int .u32 (wv (ws.getD p 0))) := by
  rcases hb with hb | hb
  · exact arr_cell hb hp
  · have := arr_cell hb (i := p) (by simpa using hp)
    rwa [List.getD_eq_getElem?_getD, List.getElem?_set_ne (Ne.symm hn), ← List.getD_eq_getElem?_getD] at this
theorem fillW_next (bs : List Int) {k : Nat} (hk : 16 ≤ k) : fillW bs (k + 1) = (fillW bs k).set k ((fillW bs k).getD (k - 16) 0 + smallS0 ((fillW bs k).getD (k - 15) 0) + (fillW bs k).getD (k - 7) 0 + smallS1 ((fillW bs k).getD (k - 2) 0)) := by
  show (fillW bs k).set k (nextW bs (fillW bs k) k) = _
  unfold nextW
  rw [if_neg (by omega)]
theorem fillW_first (bs : List Int) {k : Nat} (hk : k < 16) {y0 y1 y2 y3 : Nat} (h8 : Bytes8 bs) (z0 : bs.getD (4 * k) 0 = (y0 : Int)) (z1 : bs.getD (4 * k + 1) 0 = (y1 : Int)) (z2 : bs.getD (4 * k + 2) 0 = (y2 : Int)) (z3 : bs.getD (4 * k + 3) 0 = (y3 : Int)) :
    (fillW bs k).set k (BitVec.ofNat 32 y0 <<< 24 ||| BitVec.ofNat 32 y1 <<< 16 ||| BitVec.ofNat 32 y2 <<< 8 ||| BitVec.ofNat 32 y3) = fillW bs (k + 1) := by
  have a0 := (h8 (4 * k)).2
  have a1 := (h8 (4 * k + 1)).2
  have a2 := (h8 (4 * k + 2)).2
  have a3 := (h8 (4 * k + 3)).2
  rw [z0] at a0
  rw [z1] at a1
  rw [z2] at a2
  rw [z3] at a3
  rw [word_or y0 y1 y2 y3 (by omega) (by omega) (by omega) (by omega)]
  show _ = (fillW bs k).set k (nextW bs (fillW bs k) k)
  unfold nextW word4
  rw [if_pos hk, z0, z1, z2, z3]
  rw [show (y0 : Int) * 16777216 + (y1 : Int) * 65536 + (y2 : Int) * 256 + (y3 : Int) = ((y0 * 16777216 + y1 * 65536 + y2 * 256 + y3 : Nat) : Int) by omega, BitVec.ofInt_natCast]

end Go.Proofs.YtkhiklemhkeakaaDoor
