/-
  Plain facts: a name's bytes, label by label; slices of bytes that lie ahead of a block. No program is named here. Plain facts: lists of texts of the call's own: one more behind, two joined, a part. No program is named here. Steps of a region that draws its order: an append to a row of the call's own. No program is named here.
-/
import Derived.Test.YtfgcmjpkgdjcfaaGreatHouseNewG00
import Derived.Test.YtfgcmjpkgdjcfaaGreatHouseNewG06
import Derived.Laws.ResultCell
import Derived.Laws.Rows
import Derived.Deep.RegionLaw
namespace Go.Proofs.YtfgcmjpkgdjcfaaGreat
open Go.RowKit

/-- The first k labels, a byte with how many it has ahead of each. -/
def wires (n : List (List Int)) (k : Nat) : List Int := ((n.take k).map (fun l => (l.length : Int) :: l)).flatten

theorem wires_zero (n : List (List Int)) : wires n 0 = [] := by simp [wires]
theorem wires_succ (n : List (List Int)) (k : Nat) (h : k < n.length) : wires n (k + 1) = wires n k ++ (((n.getD k []).length : Int) :: n.getD k []) := by
 unfold wires
 rw [List.take_succ_eq_append_getElem h, List.map_append, List.flatten_append, show n.getD k [] = n[k] by simp [h]]
 simp only [List.map_cons, List.map_nil, List.flatten_cons, List.flatten_nil, List.append_nil]

theorem wires_length (n : List (List Int)) (h : nameOk n = true) (k : Nat) : (wires n k).length ≤ 16 * k := by
 induction k with
 | zero => simp [wires]
 | succ k ih =>
  by_cases hk : k < n.length
  ·rw [wires_succ n k hk]
   have := (labelOk_length ((nameOk_parts h).2 k hk)).2
   simp only [List.length_append, List.length_cons]
   omega
  ·have e : wires n (k + 1) = wires n k := by unfold wires; rw [List.take_of_length_le (by omega), List.take_of_length_le (by omega)]
   rw [e]; omega

/-- A name's bytes. -/
def wire (n : List (List Int)) : List Int := wires n n.length ++ [0]

theorem wire_length (n : List (List Int)) (h : nameOk n = true) : (wire n).length ≤ 97 := by
 unfold wire
 have := wires_length n h n.length
 have := (nameOk_parts h).1
 simp only [List.length_append, List.length_cons, List.length_nil]
 omega

/-- What NamePut answers: the bytes. -/
def namePut (l : List Int) (n : List (List Int)) : List Int := if nameOk n = true then l ++ wire n else []
theorem namePut_yes {l : List Int} {n : List (List Int)} (h : nameOk n = true) : namePut l n = l ++ wire n := by simp [namePut, h]
theorem namePut_no {l : List Int} {n : List (List Int)} (h : nameOk n = false) : namePut l n = [] := by simp [namePut, h]
theorem HasAt.low {A B : Nat} {w w' : World} {v : Value} {l : List Int} (h : HasAt A w v l) (hb : Below B w w') (hA : A ≤ B) : HasAt A w' v l := by
 rcases h with h | ⟨g, off, cap, hv, hlt, hA', hl, hm, hc⟩
 ·exact .inl h
 ·exact .inr ⟨g, off, cap, hv, Nat.lt_of_lt_of_le hlt hb.size, hA', hl, hm, fun i hi => (hb.cell (p := ⟨g, off + i, none⟩) (by show g < B; omega)).trans (hc i hi)⟩
theorem HasAt.mono {A A' : Nat} {w : World} {v : Value} {l : List Int} (h : HasAt A w v l) (hA : A ≤ A') : HasAt A' w v l := by
 rcases h with h | ⟨g, off, cap, hv, hlt, hA', hl, hm, hc⟩
 ·exact .inl h
 ·exact .inr ⟨g, off, cap, hv, hlt, by omega, hl, hm, hc⟩
theorem HasAt.form {A : Nat} {w : World} {v : Value} {l : List Int} (h : HasAt A w v l) : ∃ a cap, v = .slice a l.length cap ∧ Lies w a l := h.has.form

/-- The slice v has the texts n, all of it in blocks ahead of A. -/
def HasLAt (A : Nat) (w : World) (v : Value) (n : List (List Int)) : Prop :=
 (v = .slice none 0 0 ∧ n = []) ∨ ∃ g off cap, v = .slice (some ⟨g, off, none⟩) n.length cap ∧ g < w.heap.size ∧ g < A ∧ n.length ≤ cap ∧ cap ≤ maxLen ∧
  ∀ i, i < n.length → ∃ u, w.cell? ⟨g, off + i, none⟩ = some u ∧ HasAt A w u (n.getD i [])

theorem HasL.at {w : World} {v : Value} {n : List (List Int)} (h : HasL w v n) : HasLAt w.heap.size w v n := by
 rcases h with h | ⟨g, off, cap, hv, hlt, hl, hm, hc⟩
 ·exact .inl h
 ·refine .inr ⟨g, off, cap, hv, hlt, hlt, hl, hm, fun i hi => ?_⟩
  obtain ⟨u, h1, h2⟩ := hc i hi
  exact ⟨u, h1, h2.at⟩
theorem HasLAt.hasL {A : Nat} {w : World} {v : Value} {n : List (List Int)} (h : HasLAt A w v n) : HasL w v n := by
 rcases h with h | ⟨g, off, cap, hv, hlt, _, hl, hm, hc⟩
 ·exact .inl h
 ·refine .inr ⟨g, off, cap, hv, hlt, hl, hm, fun i hi => ?_⟩
  obtain ⟨u, h1, h2⟩ := hc i hi
  exact ⟨u, h1, h2.has⟩
theorem HasLAt.low {A B : Nat} {w w' : World} {v : Value} {n : List (List Int)} (h : HasLAt A w v n) (hb : Below B w w') (hA : A ≤ B) : HasLAt A w' v n := by
 rcases h with h | ⟨g, off, cap, hv, hlt, hA', hl, hm, hc⟩
 ·exact .inl h
 ·refine .inr ⟨g, off, cap, hv, Nat.lt_of_lt_of_le hlt hb.size, hA', hl, hm, fun i hi => ?_⟩
  obtain ⟨u, h1, h2⟩ := hc i hi
  exact ⟨u, (hb.cell (p := ⟨g, off + i, none⟩) (by show g < B; omega)).trans h1, h2.low hb hA⟩
theorem HasLAt.below {A : Nat} {w w' : World} {v : Value} {n : List (List Int)} (h : HasLAt A w v n) (hb : Below w.heap.size w w') : HasLAt A w' v n := by
 rcases h with h | ⟨g, off, cap, hv, hlt, hA', hl, hm, hc⟩
 ·exact .inl h
 ·refine .inr ⟨g, off, cap, hv, Nat.lt_of_lt_of_le hlt hb.size, hA', hl, hm, fun i hi => ?_⟩
  obtain ⟨u, h1, h2⟩ := hc i hi
  exact ⟨u, (hb.cell (p := ⟨g, off + i, none⟩) hlt).trans h1, h2.below hb⟩
theorem HasLAt.outside {A B E : Nat} {w w' : World} {v : Value} {n : List (List Int)} (h : HasLAt A w v n) (ho : Outside B E w w') (hA : A ≤ B) : HasLAt A w' v n := by
 rcases h with h | ⟨g, off, cap, hv, hlt, hA', hl, hm, hc⟩
 ·exact .inl h
 ·refine .inr ⟨g, off, cap, hv, Nat.lt_of_lt_of_le hlt ho.size, hA', hl, hm, fun i hi => ?_⟩
  obtain ⟨u, h1, h2⟩ := hc i hi
  refine ⟨u, ?_, h2.outside ho hA⟩
  rw [World.cell?_of_block (ho.block g hlt (.inl (by omega)))]
  exact h1
theorem HasLAt.here {A : Nat} {w : World} {a : Option Addr} {len cap : Nat} {n : List (List Int)} (h : HasLAt A w (.slice a len cap) n) {k : Nat} (hk : k < n.length) :
  ∃ b off u, a = some ⟨b, off, none⟩ ∧ b < A ∧ w.cell? ⟨b, off + k, none⟩ = some u ∧ HasAt A w u (n.getD k []) := by
 rcases h with ⟨_, rfl⟩ | ⟨g, off, cap, hv, _, hlt, _, _, hc⟩
 ·simp at hk
 ·simp only [Value.slice.injEq] at hv
  obtain ⟨u, h1, h2⟩ := hc k hk
  exact ⟨g, off, u, hv.1, hlt, h1, h2⟩

/-- A row of one type isn't a block of another. -/
theorem Own.apart {B b : Nat} {e t : TypeId} {w : World} {v : Value} {l : List Int} {c : Array Value} (h : Own B e w v l) (hb : w.heap[b]? = some (.cells c t)) (hne : t ≠ e) : v.ownBlock ≠ some b := by
 intro hq
 rcases h.2 with ⟨rfl, _⟩ | ⟨g, cap, cur, rfl, _, hg, _⟩
 ·simp [Value.ownBlock] at hq
 ·simp [Value.ownBlock] at hq
  subst hq
  rw [hg] at hb
  simp at hb
  exact hne hb.2.symm
theorem block_grown {b : Nat} {w w' : World} {row : Option Nat} {o : Obj} (hg : w.grownBy w' row) (hb : w.heap[b]? = some o) (hne : row ≠ some b) : w'.heap[b]? = some o := (hg.block b (block_lt hb) (fun e => hne e.symm)).trans hb
theorem grown_below {B : Nat} {e : TypeId} {w w' : World} {v : Value} {l : List Int} (ho : Own B e w v l) (hB : B ≤ w.heap.size) (g : w.grownBy w' v.ownBlock) : Below B w w' := (Below.refl B w).grown g hB (fun q hq => (ho.lt q hq).1)
/-- What stays behind an append to an own row of bytes. -/
theorem put_step {B q : Nat} {e t : TypeId} {w1 W w' : World} {v u x : Value} {l lab : List Int} {c : Array Value} {p : Addr} (g : W.grownBy w' v.ownBlock) (ho : Own B e W v l) (hz : B ≤ W.heap.size) (hk : W.heap[q]? = some (.cells c t)) (hne : t ≠ e)
  (hb : Below B w1 W) (hu : HasAt B W u lab) (hc : W.cell? p = some x) (hp : p.block < B) :
  w'.heap[q]? = some (.cells c t) ∧ Below B w1 w' ∧ B ≤ w'.heap.size ∧ HasAt B w' u lab ∧ w'.cell? p = some x := by
 have y := grown_below ho hz g
 exact ⟨block_grown g hk (ho.apart hk hne), hb.trans y, Nat.le_trans hz y.size, hu.low y (Nat.le_refl _), (y.cell hp).trans hc⟩
theorem wrap_u8 (n : Nat) (h : n ≤ 255) : IntKind.u8.wrap (n : Int) = n := by
 simp [IntKind.wrap, IntKind.bits, IntKind.signed]
 omega
end Go.Proofs.YtfgcmjpkgdjcfaaGreat

namespace Go.Proofs.YtfgcmjpkgdjcfaaGreat
open Go.RowKit

/-- One more text behind an own list of texts. -/
theorem OwnL.snoc {B : Nat} {el eb : TypeId} {w w' : World} {v v' u : Value} {n : List (List Int)} {l : List Int} {vs : List Value} (ho : w.ownsRow B el 1 v n.length vs)
  (hu : ∀ i, i < n.length → ∃ x, vs[i]? = some x ∧ Own B eb w x (n.getD i [])) (hd : ∀ (i j : Nat) (x x' : Value), i < j → vs[i]? = some x → vs[j]? = some x' → x.ownBlock = none ∨ x.ownBlock ≠ x'.ownBlock)
  (hul : Own B eb w u l) (hnew : ∀ (i : Nat) (x : Value), vs[i]? = some x → x.ownBlock = none ∨ x.ownBlock ≠ u.ownBlock)
  (ho' : w'.ownsRow B el 1 v' (n.length + 1) (vs ++ [u])) (hg : w.grownBy w' v.ownBlock) (hne : el ≠ eb) : OwnL B el eb w' v' (n ++ [l]) := by
 have hl : vs.length = n.length := by have := ho.1; simpa using this
 have apart : ∀ x m, Own B eb w x m → x.ownBlock = none ∨ x.ownBlock ≠ v.ownBlock := by
  intro x m hx
  rcases hx.2 with ⟨rfl, _⟩ | ⟨g, cap, cur, rfl, _, hgx, _⟩
  ·exact .inl rfl
  ·right
   intro e
   rcases ho.2 with ⟨rfl, _⟩ | ⟨g', cap', cur', rfl, _, hgv, _⟩
   ·simp [Value.ownBlock] at e
   ·simp [Value.ownBlock] at e
    subst e
    rw [hgx] at hgv
    simp at hgv
    exact hne hgv.2.symm
 refine ⟨vs ++ [u], by simpa using ho', fun i hi => ?_, fun i j x x' hij hx hx' => ?_⟩
 ·simp at hi
  by_cases e : i < n.length
  ·obtain ⟨x, h1, h2⟩ := hu i e
   refine ⟨x, by rw [List.getElem?_append_left (by omega)]; exact h1, ?_⟩
   have e2 : (n ++ [l]).getD i [] = n.getD i [] := by simp [List.getD, List.getElem?_append_left e]
   rw [e2]
   exact h2.kept hg (apart x _ h2)
  ·obtain rfl : i = n.length := by omega
   refine ⟨u, by rw [List.getElem?_append_right (by omega)]; simp [hl], ?_⟩
   have e2 : (n ++ [l]).getD n.length [] = l := by simp [List.getD]
   rw [e2]
   exact hul.kept hg (apart u _ hul)
 ·have hj : j < (vs ++ [u]).length := (List.getElem?_eq_some_iff.1 hx').1
  simp at hj
  rw [List.getElem?_append_left (by omega)] at hx
  by_cases e : j < vs.length
  ·rw [List.getElem?_append_left e] at hx'
   exact hd i j x x' hij hx hx'
  ·obtain rfl : j = vs.length := by omega
   rw [List.getElem?_append_right (by omega)] at hx'
   simp at hx'
   subst hx'
   exact hnew i x hx


theorem ownsRow_kept' {B n : Nat} {e : TypeId} {w w' : World} {v : Value} {xs : List Value} (h : w.ownsRow B e 1 v n xs) (hb : Below w.heap.size w w') : w'.ownsRow B e 1 v n xs := World.ownsRow.kept h (grown_of_below hb) (by cases hq : v.ownBlock with | none => exact .inl rfl | some q => exact .inr (by simp))

/-- A row isn't a block of another type. -/
theorem row_apart {B b n : Nat} {e t : TypeId} {w : World} {v : Value} {xs : List Value} {c : Array Value} (h : w.ownsRow B e 1 v n xs) (hb : w.heap[b]? = some (.cells c t)) (hne : t ≠ e) : v.ownBlock ≠ some b := by
 intro hq
 rcases h.2 with ⟨rfl, _⟩ | ⟨g, cap, cur, rfl, _, hg, _⟩
 ·simp [Value.ownBlock] at hq
 ·simp [Value.ownBlock] at hq
  subst hq
  rw [hg] at hb
  simp at hb
  exact hne hb.2.symm

/-- An own list of texts, one more text put behind it in place: what the append leaves. The world W is the one in which the text u has been made and the row of the append's second argument laid. -/
theorem snoc_step {B q m : Nat} {el eb t : TypeId} {w W w' : World} {v v' u : Value} {n : List (List Int)} {l : List Int} {vs : List Value} {c : Array Value} (g : W.grownBy w' v.ownBlock) (ho' : w'.ownsRow B el 1 v' m (vs ++ [u])) (hm : m = vs.length + 1)
  (hvs : w.ownsRow B el 1 v n.length vs) (hva : ∀ i, i < n.length → ∃ x, vs[i]? = some x ∧ Own B eb w x (n.getD i [])) (hvd : ∀ (i j : Nat) (x x' : Value), i < j → vs[i]? = some x → vs[j]? = some x' → x.ownBlock = none ∨ x.ownBlock ≠ x'.ownBlock)
  (hb : Below w.heap.size w W) (hu : Own w.heap.size eb W u l) (hB : B ≤ w.heap.size) (hne : el ≠ eb) (hk : W.heap[q]? = some (.cells c t)) (hnt : t ≠ el) :
  OwnL B el eb w' v' (n ++ [l]) ∧ w'.heap[q]? = some (.cells c t) ∧ Below B w w' := by
 have hl : vs.length = n.length := by have := hvs.1; simpa using this
 have hW := ownsRow_kept' hvs hb
 refine ⟨?_, block_grown g hk (row_apart hW hk hnt), ?_⟩
 ·refine OwnL.snoc (w := W) hW (fun i hi => ?_) hvd (hu.mono hB) (fun i x hx => ?_) (by rw [hm, hl] at ho'; exact ho') g hne
  ·obtain ⟨x, h1, h2⟩ := hva i hi
   exact ⟨x, h1, h2.below hb⟩
  ·have hi : i < n.length := by rw [← hl]; exact (List.getElem?_eq_some_iff.1 hx).1
   obtain ⟨x', h1, h2⟩ := hva i hi
   rw [hx] at h1
   obtain rfl : x = x' := by simpa using h1
   exact own_apart h2 hu (Nat.le_refl _)
 ·exact (hb.mono hB).trans ((Below.refl B W).grown g (Nat.le_trans hB hb.size) (fun k hk => (World.ownsRow.lt hW k hk).1))

/-- An append to a new empty row of bytes leaves what was there. -/
theorem lit_grown {w w' : World} {o : Obj} {n c : Nat} (g : (w.alloc o).grownBy w' (Value.slice (some ⟨w.heap.size, 0, none⟩) n c).ownBlock) : Below w.heap.size w w' :=
 (below_alloc o).grown g (below_alloc o).size (fun k hk => by simp [Value.ownBlock] at hk; omega)

/-- Two new blocks, as a function's box and its result lie. -/
theorem box2 (w : World) (o : Obj) (c2 : Array Value) (t2 : TypeId) :
  ((w.alloc o).alloc (.cells c2 t2)).heap.size = w.heap.size + 2 ∧ ((w.alloc o).alloc (.cells c2 t2)).heap[w.heap.size]? = some o ∧ ((w.alloc o).alloc (.cells c2 t2)).heap[w.heap.size + 1]? = some (.cells c2 t2) := by
 have e1 : (w.alloc o).heap.size = w.heap.size + 1 := by show (w.heap.push o).size = _; simp
 have e2 : ((w.alloc o).alloc (.cells c2 t2)).heap.size = w.heap.size + 1 + 1 := by rw [← e1]; show ((w.alloc o).heap.push _).size = _; simp
 refine ⟨e2, block_kept (below_alloc _) (heap_alloc_new w o), ?_⟩
 rw [← e1]; exact heap_alloc_new _ _
theorem below2 (w : World) (o o' : Obj) : Below w.heap.size w ((w.alloc o).alloc o') := (below_alloc _).alloc (below_alloc _).size _

/-- A struct that lies in a block of its own and a value, as a function's two results. -/
theorem results_cell_tmp_row {P : Program} {fn : Func} {p u : Tmp} {ty : TypeId} (h : fn.results = #[.cell p ty, .tmp u]) (tmps : Array Value) (w : World) (g : Nat) (t : TypeId) (cs : Array Value) (fr : Nat × Nat) (d : TypeDesc)
  (hp : tmps.getD p undef = .pointer (some ⟨g, 0, none⟩)) (hg : w.heap[g]? = some (.cells cs t fr))
  (hu : P.underlying ty = some d) (hd : (match d with | .struct _ | .array _ _ => true | _ => false) = true) (hi : (P.info? ty).map (·.size) = some cs.size) :
  (results fn tmps).run P w = .ok (.tuple #[.agg cs, tmps.getD u undef]) w := by
 rw [results_cell_tmp h, hp]
 simp [asAddr, run_loadVar_row w g t ty cs fr d hg hu hd hi]

end Go.Proofs.YtfgcmjpkgdjcfaaGreat

namespace Go.Proofs.YtfgcmjpkgdjcfaaGreat
open Go.RowKit

section
variable {P : Program} {w : World}

theorem run_append_bytes (t ty e : TypeId) (ht : P.underlying t = some (.slice e)) (hinfo : (P.info? e).map (fun i => (i.zero, i.size, i.bytes)) = some (some (.int .u8 0), 1, 1))
  (base : Nat) (v vx : Value) (l m : List Int) (hown : Own base e w v l) (hr : Reads w vx m) (hlen : l.length + m.length ≤ 1099511627776) (hbase : base ≤ w.heap.size) :
  ∃ v' w', (Builtin.append_ #[t, t] ty #[v, vx]).run P w = .ok v' w' ∧ Own base e w' v' (l ++ m) ∧ w.grownBy w' v.ownBlock := by
 obtain ⟨i0, hi, hz0, hz1, hz2⟩ := info_parts hinfo
 rcases hr with ⟨rfl, rfl⟩ | ⟨ad, cap, rfl, hc⟩
 ·exact ⟨v, w, run_append_owned_none w base t ty e i0 1 ht hi v l.length (l.map (Value.int .u8)) hown, by simpa using hown, ⟨rfl, rfl, rfl, Nat.le_refl _, fun _ _ _ => rfl⟩⟩
 ·obtain ⟨v', w', h1, h2, h3, _⟩ := run_append_own (P := P) w base t ty e i0 (.int .u8 0) 1 1 ht hi hz0 hz1 hz2 rfl (by decide) v l.length (l.map (Value.int .u8)) hown ad m.length cap (m.map (Value.int .u8)) (by simp) (news_of hc) (one_of m) (by unfold maxLen; omega) (by omega) hbase
  exact ⟨v', w', h1, by simpa [Own] using h2, h3⟩

/-- 'append(s, x...)' of bytes, as a step of a region. -/
theorem step_append_bytes {ops : Array Oper} {o : Oper} {a : Act} {K : Act → World → Prop} {Q : Exit → Act → World → Prop} {E : Prop} (hgd : o.guard = none) (s x : Operand) (t e : TypeId)
  (ho : o.op = .call { callee := .builtin .append, args := #[s, x], argTypes := #[t, t] }) (ht : P.underlying t = some (.slice e))
  (hinfo : (P.info? e).map (fun i => (i.zero, i.size, i.bytes)) = some (some (.int .u8 0), 1, 1))
  (base : Nat) (v vx : Value) (l m : List Int) (hs : a.eval s = v) (hx : a.eval x = vx) (hown : Own base e w v l) (hr : Reads w vx m) (hlen : l.length + m.length ≤ 1099511627776) (hbase : base ≤ w.heap.size)
  (h : ∀ v' w', Own base e w' v' (l ++ m) → w.grownBy w' v.ownBlock → K (a.put o.dst v') w') : if Region.wanted o (yielded ops a.tmps) = true then Oper.wp P o a w K Q else E := by
 have hw : Region.wanted o (yielded ops a.tmps) = true := by simp [Region.wanted, hgd]
 rw [if_pos hw]
 obtain ⟨v', w', hr', h2, h3⟩ := run_append_bytes (P := P) t o.type e ht hinfo base v vx l m hown hr hlen hbase
 unfold Oper.wp execOp
 simp only [ho, resolve, invoke, builtin, Sem.run_bind, Sem.run_pure, Result.andThen_ok, List.map_toArray, List.map_cons, List.map_nil, hs, hx, hr']
 exact h v' w' h2 h3

/-- Some values more behind an own row of values of one cell each. -/
theorem run_append_row (t ty e : TypeId) (ht : P.underlying t = some (.slice e)) (hinfo : (P.info? e).map (fun i => (i.zero, i.size, i.bytes)) = some (some (.slice none 0 0), 1, 24))
  (base : Nat) (v vx : Value) (xs us : List Value) (hown : w.ownsRow base e 1 v xs.length xs)
  (hr : (vx = .slice none 0 0 ∧ us = []) ∨ ∃ ad cap, vx = .slice (some ad) us.length cap ∧ ∀ j y, us[j]? = some y → w.cell? (ad.add j) = some y) (hu : ∀ y ∈ us, y.oneCell' = true)
  (hlen : xs.length + us.length ≤ 1099511627776) (hbase : base ≤ w.heap.size) :
  ∃ v' w', (Builtin.append_ #[t, t] ty #[v, vx]).run P w = .ok v' w' ∧ w'.ownsRow base e 1 v' (xs.length + us.length) (xs ++ us) ∧ w.grownBy w' v.ownBlock := by
 obtain ⟨i0, hi, hz0, hz1, hz2⟩ := info_parts hinfo
 rcases hr with ⟨rfl, rfl⟩ | ⟨ad, cap, rfl, hc⟩
 ·exact ⟨v, w, run_append_owned_none w base t ty e i0 1 ht hi v xs.length xs hown, by simpa using hown, ⟨rfl, rfl, rfl, Nat.le_refl _, fun _ _ _ => rfl⟩⟩
 ·obtain ⟨v', w', h1, h2, h3, _⟩ := run_append_own (P := P) w base t ty e i0 (.slice none 0 0) 1 24 ht hi hz0 hz1 hz2 rfl (by decide) v xs.length xs hown ad us.length cap us (by simp) hc hu (by unfold maxLen; omega) (by omega) hbase
  exact ⟨v', w', h1, h2, h3⟩

/-- 'append(s, x...)' of slices, as a step of a region. -/
theorem step_append_row {ops : Array Oper} {o : Oper} {a : Act} {K : Act → World → Prop} {Q : Exit → Act → World → Prop} {E : Prop} (hgd : o.guard = none) (s x : Operand) (t e : TypeId)
  (ho : o.op = .call { callee := .builtin .append, args := #[s, x], argTypes := #[t, t] }) (ht : P.underlying t = some (.slice e))
  (hinfo : (P.info? e).map (fun i => (i.zero, i.size, i.bytes)) = some (some (.slice none 0 0), 1, 24))
  (base : Nat) (v vx : Value) (xs us : List Value) (hs : a.eval s = v) (hx : a.eval x = vx) (hown : w.ownsRow base e 1 v xs.length xs)
  (hr : (vx = .slice none 0 0 ∧ us = []) ∨ ∃ ad cap, vx = .slice (some ad) us.length cap ∧ ∀ j y, us[j]? = some y → w.cell? (ad.add j) = some y) (hu : ∀ y ∈ us, y.oneCell' = true)
  (hlen : xs.length + us.length ≤ 1099511627776) (hbase : base ≤ w.heap.size)
  (h : ∀ v' w', w'.ownsRow base e 1 v' (xs.length + us.length) (xs ++ us) → w.grownBy w' v.ownBlock → K (a.put o.dst v') w') : if Region.wanted o (yielded ops a.tmps) = true then Oper.wp P o a w K Q else E := by
 have hw : Region.wanted o (yielded ops a.tmps) = true := by simp [Region.wanted, hgd]
 rw [if_pos hw]
 obtain ⟨v', w', hr', h2, h3⟩ := run_append_row (P := P) t o.type e ht hinfo base v vx xs us hown hr hu hlen hbase
 unfold Oper.wp execOp
 simp only [ho, resolve, invoke, builtin, Sem.run_bind, Sem.run_pure, Result.andThen_ok, List.map_toArray, List.map_cons, List.map_nil, hs, hx, hr']
 exact h v' w' h2 h3

/-- One value more: what the row of the append's second argument is, in a world that has just been given it. -/
theorem one_more (w : World) (e : TypeId) (u : Value) : (Value.slice (some ⟨w.heap.size, 0, none⟩) 1 1 = .slice none 0 0 ∧ [u] = []) ∨ ∃ ad cap, Value.slice (some ⟨w.heap.size, 0, none⟩) 1 1 = .slice (some ad) [u].length cap ∧ ∀ j y, [u][j]? = some y → (w.alloc (.cells #[u] e)).cell? (ad.add j) = some y := by
 refine .inr ⟨_, 1, rfl, fun j y hj => ?_⟩
 have hj0 : j = 0 := by
  have := (List.getElem?_eq_some_iff.1 hj).1
  simp at this
  exact this
 subst hj0
 have hh : (w.alloc (.cells #[u] e)).heap[w.heap.size]? = some (.cells #[u] e) := by
  show (w.heap.push _)[w.heap.size]? = _
  simp
 rw [Addr.add_lit]
 unfold World.cell?
 simp only [hh]
 simpa using hj
end
end Go.Proofs.YtfgcmjpkgdjcfaaGreat
