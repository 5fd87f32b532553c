/-
  Plain facts: labels and names as lists of numbers, and how they lie in memory. No program is named here. Plain facts: the name of an address, in lists. No program is named here.
-/
import Derived.Test.YtkmjghecjlgjpaaDoorFnReverseG00
namespace Go.Proofs.YtkmjghecjlgjpaaDoor
open Go.RowKit

/-- A sign of a label: a small letter, a digit, or a line. -/
def signOk (c : Int) : Bool := decide ((97 ≤ c ∧ c ≤ 122) ∨ (48 ≤ c ∧ c ≤ 57) ∨ c = 45)

/-- A label: 1 to 15 signs. -/
def labelOk (l : List Int) : Bool := decide (1 ≤ l.length ∧ l.length ≤ 15 ∧ ∀ j, j < l.length → signOk (l.getD j 0) = true)

theorem labelOk_yes {l : List Int} (h0 : 1 ≤ l.length) (h1 : l.length ≤ 15) (h : ∀ j, j < l.length → signOk (l.getD j 0) = true) : labelOk l = true := decide_eq_true ⟨h0, h1, h⟩
theorem labelOk_short {l : List Int} (h : ¬ (1 ≤ l.length ∧ l.length ≤ 15)) : labelOk l = false := decide_eq_false fun h' => h ⟨h'.1, h'.2.1⟩
theorem labelOk_sign {l : List Int} {j : Nat} (hj : j < l.length) (h : signOk (l.getD j 0) = false) : labelOk l = false := decide_eq_false fun h' => by
  have := h'.2.2 j hj
  rw [h] at this
  cases this
theorem labelOk_length {l : List Int} (h : labelOk l = true) : 1 ≤ l.length ∧ l.length ≤ 15 := by
  have := of_decide_eq_true h
  exact ⟨this.1, this.2.1⟩

/-- A name: at most 6 labels. -/
def nameOk (n : List (List Int)) : Bool := decide (n.length ≤ 6 ∧ ∀ j, j < n.length → labelOk (n.getD j []) = true)

theorem nameOk_yes {n : List (List Int)} (h1 : n.length ≤ 6) (h : ∀ j, j < n.length → labelOk (n.getD j []) = true) : nameOk n = true := decide_eq_true ⟨h1, h⟩
theorem nameOk_long {n : List (List Int)} (h : 6 < n.length) : nameOk n = false := decide_eq_false fun h' => by omega
theorem nameOk_label {n : List (List Int)} {j : Nat} (hj : j < n.length) (h : labelOk (n.getD j []) = false) : nameOk n = false := decide_eq_false fun h' => by
  have := h'.2 j hj
  rw [h] at this
  cases this
theorem nameOk_parts {n : List (List Int)} (h : nameOk n = true) : n.length ≤ 6 ∧ ∀ j, j < n.length → labelOk (n.getD j []) = true := of_decide_eq_true h

/-- The list of texts n lies behind the slice's head a, wherever each text lies. -/
def LiesL (w : World) (a : Option Addr) (n : List (List Int)) : Prop :=
  n = [] ∨ ∃ b off, a = some ⟨b, off, none⟩ ∧ b < w.heap.size ∧ ∀ i, i < n.length → ∃ ia ic, w.cell? ⟨b, off + i, none⟩ = some (.slice ia (n.getD i []).length ic) ∧ Lies w ia (n.getD i [])

theorem LiesL.below {w w' : World} {a : Option Addr} {n : List (List Int)} (h : LiesL w a n) (hb : Below w.heap.size w w') : LiesL w' a n := by
  rcases h with rfl | ⟨b, off, rfl, hlt, hc⟩
  · exact .inl rfl
  · refine .inr ⟨b, off, rfl, Nat.lt_of_lt_of_le hlt hb.size, fun i hi => ?_⟩
    obtain ⟨ia, ic, h1, h2⟩ := hc i hi
    exact ⟨ia, ic, (hb.cell (p := ⟨b, off + i, none⟩) hlt).trans h1, h2.below hb⟩

theorem LiesL.here {w : World} {a : Option Addr} {n : List (List Int)} (h : LiesL w a n) {k : Nat} (hk : k < n.length) :
    ∃ b off ia ic, a = some ⟨b, off, none⟩ ∧ b < w.heap.size ∧ w.cell? ⟨b, off + k, none⟩ = some (.slice ia (n.getD k []).length ic) ∧ Lies w ia (n.getD k []) := by
  rcases h with rfl | ⟨b, off, rfl, hlt, hc⟩
  · simp at hk
  · obtain ⟨ia, ic, h1, h2⟩ := hc k hk
    exact ⟨b, off, ia, ic, rfl, hlt, h1, h2⟩

/-- The slice v has the texts n, each of them a slice that has its bytes. -/
def HasL (w : World) (v : Value) (n : List (List Int)) : Prop :=
  (v = .slice none 0 0 ∧ n = []) ∨ ∃ g off cap, v = .slice (some ⟨g, off, none⟩) n.length cap ∧ g < w.heap.size ∧ n.length ≤ cap ∧ cap ≤ maxLen ∧
    ∀ i, i < n.length → ∃ u, w.cell? ⟨g, off + i, none⟩ = some u ∧ Has w u (n.getD i [])

theorem HasL.below {w w' : World} {v : Value} {n : List (List Int)} (h : HasL w v n) (hb : Below w.heap.size w w') : HasL w' v n := by
  rcases h with h | ⟨g, off, cap, hv, hlt, hl, hm, hc⟩
  · exact .inl h
  · refine .inr ⟨g, off, cap, hv, Nat.lt_of_lt_of_le hlt hb.size, hl, hm, fun i hi => ?_⟩
    obtain ⟨u, h1, h2⟩ := hc i hi
    exact ⟨u, (hb.cell (p := ⟨g, off + i, none⟩) hlt).trans h1, h2.below hb⟩

theorem HasL.here {w : World} {a : Option Addr} {len cap : Nat} {n : List (List Int)} (h : HasL w (.slice a len cap) n) {k : Nat} (hk : k < n.length) :
    ∃ b off u, a = some ⟨b, off, none⟩ ∧ b < w.heap.size ∧ w.cell? ⟨b, off + k, none⟩ = some u ∧ Has w u (n.getD k []) := by
  rcases h with ⟨_, rfl⟩ | ⟨g, off, cap, hv, hlt, _, _, hc⟩
  · simp at hk
  · simp only [Value.slice.injEq] at hv
    obtain ⟨u, h1, h2⟩ := hc k hk
    exact ⟨g, off, u, hv.1, hlt, h1, h2⟩

theorem HasL.form {w : World} {v : Value} {n : List (List Int)} (h : HasL w v n) : ∃ a cap, v = .slice a n.length cap ∧ n.length ≤ cap ∧ cap ≤ maxLen := by
  rcases h with ⟨rfl, rfl⟩ | ⟨g, off, cap, rfl, _, hl, hm, _⟩
  · exact ⟨none, 0, rfl, Nat.le_refl _, Nat.zero_le _⟩
  · exact ⟨_, cap, rfl, hl, hm⟩

theorem Has.bound {w : World} {v : Value} {l : List Int} (h : Has w v l) : l.length ≤ maxLen := by
  rcases h with ⟨_, rfl⟩ | ⟨_, _, _, _, _, hl, hm, _⟩
  · exact Nat.zero_le _
  · omega

/-- The slice v, among the blocks from B on, owns a row of slices, each of which owns its bytes, no two of them in one block. -/
def OwnL (B : Nat) (el eb : TypeId) (w : World) (v : Value) (n : List (List Int)) : Prop :=
  ∃ vs : List Value, w.ownsRow B el 1 v n.length vs ∧ (∀ i, i < n.length → ∃ u, vs[i]? = some u ∧ Own B eb w u (n.getD i [])) ∧
    ∀ (i j : Nat) (u u' : Value), i < j → vs[i]? = some u → vs[j]? = some u' → u.ownBlock = none ∨ u.ownBlock ≠ u'.ownBlock

theorem OwnL.hasL {B : Nat} {el eb : TypeId} {w : World} {v : Value} {n : List (List Int)} (h : OwnL B el eb w v n) : HasL w v n := by
  obtain ⟨vs, ho, hu, _⟩ := h
  have ho' := ho
  rcases ho.2 with ⟨rfl, hn⟩ | ⟨g, cap, cur, rfl, hb, hg, hn, hm, hs, ht⟩
  · exact .inl ⟨rfl, List.eq_nil_of_length_eq_zero hn⟩
  · refine .inr ⟨g, 0, cap, rfl, (ho'.lt g rfl).2, hn, hm, fun i hi => ?_⟩
    obtain ⟨u, h1, h2⟩ := hu i hi
    refine ⟨u, ?_, h2.has⟩
    rw [Nat.zero_add, World.ownsRow.cellAt ho' i (by omega), h1]

theorem OwnL.below {B : Nat} {el eb : TypeId} {w w' : World} {v : Value} {n : List (List Int)} (h : OwnL B el eb w v n) (hb : Below w.heap.size w w') : OwnL B el eb w' v n := by
  obtain ⟨vs, ho, hu, hd⟩ := h
  refine ⟨vs, World.ownsRow.kept ho (grown_of_below hb) ?_, fun i hi => ?_, hd⟩
  · cases hv : v.ownBlock with
    | none => exact .inl rfl
    | some k => exact .inr (by simp)
  · obtain ⟨u, h1, h2⟩ := hu i hi
    exact ⟨u, h1, h2.below hb⟩

theorem below_alloc {w : World} (o : Obj) : Below w.heap.size w (w.alloc o) := (Below.refl _ _).alloc (Nat.le_refl _) o

/-- A made row, as an own one. -/
theorem ownsRow_of_rowIs {B g n : Nat} {e : TypeId} {w : World} {f : Nat → Value} (h : w.rowIs g e n f) (hB : B ≤ g) (hm : n ≤ maxLen) : w.ownsRow B e 1 (.slice (some ⟨g, 0, none⟩) n n) n ((List.range n).map f) := by
  obtain ⟨c, hb, hn, hc⟩ := h
  refine ⟨by simp, .inr ⟨g, n, c, rfl, hB, hb, Nat.le_refl _, hm, by omega, ?_⟩⟩
  apply List.ext_getElem?
  intro j
  by_cases hj : j < n
  · rw [List.getElem?_take, if_pos (by omega), Array.getElem?_toList, hc j hj]
    simp [hj]
  · rw [List.getElem?_take, if_neg (by omega)]
    simp [hj]

theorem grown_setCell (w : World) (a : Addr) (v : Value) : w.grownBy (w.setCell a v) (some a.block) := by
  refine ⟨rfl, rfl, rfl, by simp [World.setCell], fun k hk hne => ?_⟩
  have : a.block ≠ k := fun e => hne (by rw [e])
  simp [World.setCell, Array.getElem?_modify, this]

theorem OwnL.kept {B q : Nat} {el eb : TypeId} {w w' : World} {v : Value} {n : List (List Int)} (h : OwnL B el eb w v n) (hg : w.grownBy w' (some q)) (hq : q < B) : OwnL B el eb w' v n := by
  obtain ⟨vs, ho, hu, hd⟩ := h
  refine ⟨vs, World.ownsRow.kept ho hg ?_, fun i hi => ?_, hd⟩
  · cases hv : v.ownBlock with
    | none => exact .inl rfl
    | some k =>
      right
      intro e
      have := (World.ownsRow.lt ho k hv).1
      simp at e
      omega
  · obtain ⟨u, h1, h2⟩ := hu i hi
    refine ⟨u, h1, h2.kept hg ?_⟩
    cases hv : u.ownBlock with
    | none => exact .inl rfl
    | some k =>
      right
      intro e
      have := (h2.lt k hv).1
      simp at e
      omega

theorem ownsRow_mono {B B' : Nat} {e : TypeId} {w : World} {v : Value} {n : Nat} {xs : List Value} (h : w.ownsRow B e 1 v n xs) (hB : B' ≤ B) : w.ownsRow B' e 1 v n xs := by
  refine ⟨h.1, ?_⟩
  rcases h.2 with hn | ⟨g, cap, cur, hv, hb, rest⟩
  · exact .inl hn
  · exact .inr ⟨g, cap, cur, hv, Nat.le_trans hB hb, rest⟩

theorem OwnL.mono {B B' : Nat} {el eb : TypeId} {w : World} {v : Value} {n : List (List Int)} (h : OwnL B el eb w v n) (hB : B' ≤ B) : OwnL B' el eb w v n := by
  obtain ⟨vs, ho, hu, hd⟩ := h
  refine ⟨vs, ownsRow_mono ho hB, fun i hi => ?_, hd⟩
  obtain ⟨u, h1, h2⟩ := hu i hi
  exact ⟨u, h1, h2.mono hB⟩

/-- Three new blocks, as a function's box, its result and its variable lie. -/
theorem box3 (w : World) (o : Obj) (c2 c3 : Array Value) (t2 t3 : TypeId) :
    (((w.alloc o).alloc (.cells c2 t2)).alloc (.cells c3 t3)).heap.size = w.heap.size + 3 ∧
    (((w.alloc o).alloc (.cells c2 t2)).alloc (.cells c3 t3)).heap[w.heap.size + 1]? = some (.cells c2 t2) ∧
    (((w.alloc o).alloc (.cells c2 t2)).alloc (.cells c3 t3)).heap[w.heap.size + 1 + 1]? = some (.cells c3 t3) := by
  have e1 : (w.alloc o).heap.size = w.heap.size + 1 := by show (w.heap.push o).size = _; simp
  have e2 : ((w.alloc o).alloc (.cells c2 t2)).heap.size = w.heap.size + 1 + 1 := by rw [← e1]; show ((w.alloc o).heap.push _).size = _; simp
  have e3 : (((w.alloc o).alloc (.cells c2 t2)).alloc (.cells c3 t3)).heap.size = w.heap.size + 1 + 1 + 1 := by rw [← e2]; show (((w.alloc o).alloc (.cells c2 t2)).heap.push _).size = _; simp
  refine ⟨e3, ?_, ?_⟩
  · exact ((below_alloc _).block _ (by rw [e2]; omega)).trans (by rw [← e1]; exact heap_alloc_new _ _)
  · rw [← e2]; exact heap_alloc_new _ _

theorem block_cell {w : World} {b : Nat} {c : Array Value} {t : TypeId} (h : w.heap[b]? = some (.cells c t)) (i : Nat) : w.cell? ⟨b, i, none⟩ = c[i]? := by simp [World.cell?, h]
theorem block_frozen {w : World} {b : Nat} {c : Array Value} {t : TypeId} (h : w.heap[b]? = some (.cells c t)) (i : Nat) : w.frozen? ⟨b, i, none⟩ = false := by simp [World.frozen?, h]
theorem block_set {w : World} {b : Nat} {x : Value} {t : TypeId} (h : w.heap[b]? = some (.cells #[x] t)) (v : Value) : (w.setCell ⟨b, 0, none⟩ v).heap[b]? = some (.cells #[v] t) := by
  simp [World.setCell, Array.getElem?_modify, h]
theorem block_other {w : World} {b b' : Nat} {o : Option Obj} (h : w.heap[b]? = o) (hne : b' ≠ b) (i : Nat) (v : Value) : (w.setCell ⟨b', i, none⟩ v).heap[b]? = o := by
  simp [World.setCell, Array.getElem?_modify, hne, h]

/-- A variable that is made and set at once. -/
theorem var_new (w : World) (x v : Value) (t : TypeId) : Below w.heap.size w ((w.alloc (.cells #[x] t)).setCell ⟨w.heap.size, 0, none⟩ v) ∧
    ((w.alloc (.cells #[x] t)).setCell ⟨w.heap.size, 0, none⟩ v).heap[w.heap.size]? = some (.cells #[v] t) ∧ w.heap.size < ((w.alloc (.cells #[x] t)).setCell ⟨w.heap.size, 0, none⟩ v).heap.size := by
  have h := block_set (heap_alloc_new w (.cells #[x] t)) v
  refine ⟨(below_alloc _).setCell (Nat.le_refl _) _, h, ?_⟩
  rcases Nat.lt_or_ge w.heap.size ((w.alloc (.cells #[x] t)).setCell ⟨w.heap.size, 0, none⟩ v).heap.size with h' | h'
  · exact h'
  · rw [Array.getElem?_eq_none h'] at h
    cases h

theorem below_drew {w : World} : Below w.heap.size w w.drew := ⟨rfl, rfl, rfl, Nat.le_refl _, fun _ _ => rfl⟩

/-- What a variable's block holds, as the walk reads it. -/
theorem block_one {w : World} {b : Nat} {v : Value} {t : TypeId} (h : w.heap[b]? = some (.cells #[v] t)) : w.cell? ⟨b, 0, none⟩ = some v := by rw [block_cell h]; rfl
theorem block_lt {w : World} {b : Nat} {o : Obj} (h : w.heap[b]? = some o) : b < w.heap.size := (Array.getElem?_eq_some_iff.1 h).1
theorem block_kept {w w' : World} {b : Nat} {o : Obj} (hb : Below w.heap.size w w') (h : w.heap[b]? = some o) : w'.heap[b]? = some o := (hb.block b (block_lt h)).trans h
end Go.Proofs.YtkmjghecjlgjpaaDoor

namespace Go.Proofs.YtkmjghecjlgjpaaDoor
open Go.RowKit
set_option linter.unusedVariables false

/-- The first j labels. -/
def revL (n : Int) : Nat → List (List Int)
  | 0 => []
  | j + 1 => revL n j ++ [digs (part n (3 - j))]
theorem revL_length (n : Int) (j : Nat) : (revL n j).length = j := by
  induction j with
  | zero => rfl
  | succ j ih => simp [revL, ih]
def inAddr : List Int := [105, 110, 45, 97, 100, 100, 114]
def arpa : List Int := [97, 114, 112, 97]
def revN (n : Int) : List (List Int) := revL n 4 ++ [inAddr, arpa]
def revOk (n : Int) : Bool := decide (0 ≤ n) && decide (n ≤ 4294967295)
def revOf (n : Int) : List (List Int) := if revOk n = true then revN n else []
theorem part_rev (n : Int) (j : Nat) (hj : j < 4) (h0 : 0 ≤ n) (h1 : n ≤ 4294967295) : n / 2 ^ (8 * j) % 256 = part n (3 - j) := by
  match j, hj with
  | 0, _ => simp [part, parts]
  | 1, _ => simp [part, parts]
  | 2, _ => simp [part, parts]
  | 3, _ => simp [part, parts]; omega
theorem revL_size (n : Int) (h0 : 0 ≤ n) (h1 : n ≤ 4294967295) (j : Nat) : ∀ l ∈ revL n j, l.length ≤ 15 := by
  induction j with
  | zero => intro l hl; cases hl
  | succ j ih =>
    intro l hl
    rcases List.mem_append.1 hl with h | h
    · exact ih l h
    · simp only [List.mem_singleton] at h
      subst h
      have := digs_length (part n (3 - j)) (part_bd n (3 - j) h0 h1).1 (part_bd n (3 - j) h0 h1).2
      omega
theorem rev_size (n : Int) : (revOf n).length ≤ 6 ∧ ∀ i, i < (revOf n).length → ((revOf n).getD i []).length ≤ 15 := by
  unfold revOf
  split
  · rename_i h
    have hn : 0 ≤ n ∧ n ≤ 4294967295 := by unfold revOk at h; simpa using h
    refine ⟨by unfold revN; rw [List.length_append, revL_length]; simp, fun i hi => ?_⟩
    rw [List.getD_eq_getElem?_getD, List.getElem?_eq_getElem hi]
    have hm : (revN n)[i] ∈ revN n := List.getElem_mem hi
    simp only [Option.getD_some]
    rcases List.mem_append.1 hm with h | h
    · exact revL_size n hn.1 hn.2 4 _ h
    · simp only [List.mem_cons, List.not_mem_nil, or_false] at h
      rcases h with h | h <;> (rw [h]; decide)
  · exact ⟨by simp, fun i hi => absurd hi (by simp)⟩
end Go.Proofs.YtkmjghecjlgjpaaDoor
