/-
  Plain facts: a row of structs in memory, c cells each, whatever they are. No program is named here. Plain facts: a row of records that is being filled, each record's lists in a stretch of blocks of its own; marks in such a row. No program is named here.
-/
import Derived.Test.YtjgfljndeolmoaaFnInsidesG06
import Derived.Test.YtjgfljndeolmoaaFnInsidesG07
namespace Go.Proofs.Ytjgfljndeolmoaa
open Go.RowKit
set_option linter.unusedVariables false

/-- What E says of a struct's cells stands as long as nothing old turns. -/
def Stays {α : Type} (E : World → List Value → α → Prop) : Prop := ∀ {w w' : World} {vs : List Value} {x : α}, E w vs x → Below w.heap.size w w' → E w' vs x
/-- Structs behind a slice's head, as they came in. -/
def LiesG {α : Type} (c : Nat) (E : World → List Value → α → Prop) (d : α) (w : World) (a : Option Addr) (xs : List α) : Prop :=
 xs = [] ∨ ∃ b off, a = some ⟨b, off, none⟩ ∧ b < w.heap.size ∧ ∀ i, i < xs.length → ∃ vs, w.rangeAt b (off + i * c) vs ∧ E w vs (xs.getD i d)
/-- The slice v has these structs. -/
def HasG {α : Type} (c : Nat) (E : World → List Value → α → Prop) (d : α) (w : World) (v : Value) (xs : List α) : Prop :=
 (v = .slice none 0 0 ∧ xs = []) ∨ ∃ g off cap, v = .slice (some ⟨g, off, none⟩) xs.length cap ∧ g < w.heap.size ∧ xs.length ≤ cap ∧ cap ≤ maxLen ∧ ∀ i, i < xs.length → ∃ vs, w.rangeAt g (off + i * c) vs ∧ E w vs (xs.getD i d)
section
variable {α : Type} {c : Nat} {E : World → List Value → α → Prop} {d : α} {w w' : World} {a : Option Addr} {v : Value} {xs : List α}
theorem LiesG.below (hE : Stays E) (h : LiesG c E d w a xs) (hb : Below w.heap.size w w') : LiesG c E d w' a xs := by
 rcases h with h | ⟨b, off, ha, hlt, hc⟩
 ·exact .inl h
 ·refine .inr ⟨b, off, ha, Nat.lt_of_lt_of_le hlt hb.size, fun i hi => ?_⟩
  obtain ⟨vs, h1, h2⟩ := hc i hi
  exact ⟨vs, range_below h1 hlt hb, hE h2 hb⟩
theorem LiesG.here (h : LiesG c E d w a xs) {k : Nat} (hk : k < xs.length) : ∃ b off vs, a = some ⟨b, off, none⟩ ∧ b < w.heap.size ∧ w.rangeAt b (off + k * c) vs ∧ E w vs (xs.getD k d) := by
 rcases h with rfl | ⟨b, off, ha, hlt, hc⟩
 ·simp at hk
 ·obtain ⟨vs, h1, h2⟩ := hc k hk
  exact ⟨b, off, vs, ha, hlt, h1, h2⟩
theorem HasG.below (hE : Stays E) (h : HasG c E d w v xs) (hb : Below w.heap.size w w') : HasG c E d w' v xs := by
 rcases h with h | ⟨g, off, cap, hv, hlt, hl, hm, hc⟩
 ·exact .inl h
 ·refine .inr ⟨g, off, cap, hv, Nat.lt_of_lt_of_le hlt hb.size, hl, hm, fun i hi => ?_⟩
  obtain ⟨vs, h1, h2⟩ := hc i hi
  exact ⟨vs, range_below h1 hlt hb, hE h2 hb⟩
theorem HasG.form (h : HasG c E d w v xs) : ∃ a cap, v = .slice a xs.length cap ∧ xs.length ≤ cap ∧ cap ≤ maxLen := by
 rcases h with ⟨rfl, rfl⟩ | ⟨g, off, cap, hv, hlt, hl, hm, hc⟩
 ·exact ⟨none, 0, rfl, Nat.le_refl _, Nat.zero_le _⟩
 ·exact ⟨_, cap, hv, hl, hm⟩
theorem HasG.here {len cap : Nat} (h : HasG c E d w (.slice a len cap) xs) {k : Nat} (hk : k < xs.length) : ∃ b off vs, a = some ⟨b, off, none⟩ ∧ b < w.heap.size ∧ w.rangeAt b (off + k * c) vs ∧ E w vs (xs.getD k d) := by
 rcases h with ⟨_, rfl⟩ | ⟨g, off, cap', hv, hlt, hl, hm, hc⟩
 ·simp at hk
 ·simp only [Value.slice.injEq] at hv
  obtain ⟨vs, h1, h2⟩ := hc k hk
  exact ⟨g, off, vs, hv.1, hlt, h1, h2⟩
theorem HasG.map {E' : World → List Value → α → Prop} (hE : ∀ vs x, E w vs x → E' w vs x) (h : HasG c E d w v xs) : HasG c E' d w v xs := by
 rcases h with h | ⟨g, off, cap, hv, hlt, hl, hm, hc⟩
 ·exact .inl h
 ·refine .inr ⟨g, off, cap, hv, hlt, hl, hm, fun i hi => ?_⟩
  obtain ⟨vs, h1, h2⟩ := hc i hi
  exact ⟨vs, h1, hE _ _ h2⟩
end

/-- What is owned: O B e w vs x: the struct's cells vs, what they lead to lies in blocks of B .. e - 1. -/
structure OwnsG {α : Type} (c : Nat) (O : Nat → Nat → World → List Value → α → Prop) : Prop where
 cells : ∀ {B e : Nat} {w : World} {vs : List Value} {x : α}, O B e w vs x → vs.length = c
 below : ∀ {B e : Nat} {w w' : World} {vs : List Value} {x : α}, O B e w vs x → Below w.heap.size w w' → O B e w' vs x
 outside : ∀ {B e C D : Nat} {w w' : World} {vs : List Value} {x : α}, O B e w vs x → Outside C D w w' → e ≤ C ∨ D ≤ B → O B e w' vs x
 wide : ∀ {B e B' e' : Nat} {w : World} {vs : List Value} {x : α}, O B e w vs x → B' ≤ B → e ≤ e' → O B' e' w vs x
/-- The first k structs of a row that is being filled, in block g. -/
def FillG {α : Type} (c : Nat) (O : Nat → Nat → World → List Value → α → Prop) (d : α) (g n k : Nat) (w : World) (xs : List α) : Prop :=
 g < w.heap.size ∧ w.there g 0 (n * c) ∧ ∀ i, i < k → ∃ vs, w.rangeAt g (i * c) vs ∧ O (g + 1) w.heap.size w vs (xs.getD i d)
section
variable {α : Type} {c : Nat} {O : Nat → Nat → World → List Value → α → Prop} {d : α} {w w' : World} {v : Value} {xs : List α} {g n k : Nat}
theorem FillG.below (hO : OwnsG c O) (h : FillG c O d g n k w xs) (hb : Below w.heap.size w w') : FillG c O d g n k w' xs := by
 obtain ⟨h0, h1, h2⟩ := h
 refine ⟨Nat.lt_of_lt_of_le h0 hb.size, fun j hj => ?_, fun i hi => ?_⟩
 ·have := h1 j hj
  rw [← hb.cell (p := ⟨g, 0 + j, none⟩) h0, ← hb.frozen (p := ⟨g, 0 + j, none⟩) h0] at this
  exact this
 ·obtain ⟨vs, q1, q2⟩ := h2 i hi
  exact ⟨vs, range_below q1 h0 hb, hO.wide (hO.below q2 hb) (Nat.le_refl _) hb.size⟩
theorem FillG.here (h : FillG c O d g n k w xs) (hk : k < n) : w.there g (k * c) c := fun j hj => by
 have hle : k * c + c ≤ n * c := by
  have := Nat.mul_le_mul_right c (show k + 1 ≤ n from hk)
  rwa [Nat.add_mul, Nat.one_mul] at this
 have := h.2.1 (k * c + j) (by omega)
 rwa [Nat.zero_add] at this
theorem FillG.step (hO : OwnsG c O) (h : FillG c O d g n k w xs) (hk : k < n) {vs : List Value} (ho : O (g + 1) w.heap.size w vs (xs.getD k d)) : FillG c O d g n (k + 1) (w.setCells g (k * c) vs) xs := by
 have u := outside_sets g vs (k * c) w
 have ht := h.here hk
 have hc := hO.cells ho
 obtain ⟨h0, h1, h2⟩ := h
 refine ⟨Nat.lt_of_lt_of_le h0 u.size, World.there_setCells h1 _ _ _, fun i hi => ?_⟩
 by_cases e : i = k
 ·subst e
  exact ⟨vs, World.rangeAt_setCells_same _ _ _ _ (by rw [hc]; exact ht), hO.wide (hO.outside ho u (.inr (Nat.le_refl _))) (Nat.le_refl _) u.size⟩
 ·obtain ⟨us, q1, q2⟩ := h2 i (by omega)
  have hl : i * c + c ≤ k * c := by
   have := Nat.mul_le_mul_right c (show i + 1 ≤ k by omega)
   rwa [Nat.add_mul, Nat.one_mul] at this
  refine ⟨us, World.rangeAt_setCells_apart q1 _ _ _ (.inr (.inl ?_)), hO.wide (hO.outside q2 u (.inr (Nat.le_refl _))) (Nat.le_refl _) u.size⟩
  rw [hO.cells q2]
  exact hl
theorem FillG.outside (hO : OwnsG c O) {C D : Nat} (h : FillG c O d g n k w xs) (u : Outside C D w w') (hd : D ≤ g) : FillG c O d g n k w' xs := by
 obtain ⟨h0, h1, h2⟩ := h
 have hk : w'.heap[g]? = w.heap[g]? := u.block g h0 (by omega)
 have hc : ∀ j, w'.cell? ⟨g, j, none⟩ = w.cell? ⟨g, j, none⟩ := fun j => by unfold World.cell?; rw [hk]
 have hf : ∀ j, w'.frozen? ⟨g, j, none⟩ = w.frozen? ⟨g, j, none⟩ := fun j => by unfold World.frozen?; rw [hk]
 refine ⟨Nat.lt_of_lt_of_le h0 u.size, fun j hj => by rw [hc, hf]; exact h1 j hj, fun i hi => ?_⟩
 obtain ⟨vs, q1, q2⟩ := h2 i hi
 exact ⟨vs, fun j v hv => (hc _).trans (q1 j v hv), hO.wide (hO.outside q2 u (.inr (by omega))) (Nat.le_refl _) u.size⟩
end
/-- The slice v, in blocks from B on, owns these structs. -/
def OwnG {α : Type} (c : Nat) (O : Nat → Nat → World → List Value → α → Prop) (d : α) (B : Nat) (w : World) (v : Value) (xs : List α) : Prop :=
 ∃ g, v = .slice (some ⟨g, 0, none⟩) xs.length xs.length ∧ B ≤ g ∧ xs.length ≤ maxLen ∧ FillG c O d g xs.length xs.length w xs
section
variable {α : Type} {c : Nat} {O : Nat → Nat → World → List Value → α → Prop} {d : α} {w w' : World} {v : Value} {xs : List α} {B : Nat}
theorem OwnG.has {E : World → List Value → α → Prop} (hE : ∀ {B e : Nat} {w : World} {vs : List Value} {x : α}, O B e w vs x → E w vs x) (h : OwnG c O d B w v xs) : HasG c E d w v xs := by
 obtain ⟨g, rfl, _, hm, hf⟩ := h
 refine .inr ⟨g, 0, xs.length, rfl, hf.1, Nat.le_refl _, hm, fun i hi => ?_⟩
 obtain ⟨vs, q1, q2⟩ := hf.2.2 i hi
 exact ⟨vs, by rw [Nat.zero_add]; exact q1, hE q2⟩
theorem OwnG.outside (hO : OwnsG c O) {C D : Nat} (h : OwnG c O d B w v xs) (u : Outside C D w w') (hd : D ≤ B) : OwnG c O d B w' v xs := by
 obtain ⟨g, hv, hB, hm, hf⟩ := h
 exact ⟨g, hv, hB, hm, hf.outside hO u (by omega)⟩
theorem OwnG.below (hO : OwnsG c O) (h : OwnG c O d B w v xs) (hb : Below w.heap.size w w') : OwnG c O d B w' v xs := by
 obtain ⟨g, hv, hB, hm, hf⟩ := h
 exact ⟨g, hv, hB, hm, hf.below hO hb⟩
end
end Go.Proofs.Ytjgfljndeolmoaa

namespace Go.Proofs.Ytjgfljndeolmoaa
open Go.RowKit
set_option linter.unusedVariables false

theorem block_sets {b : Nat} {t : TypeId} : ∀ (vs : List Value) (o : Nat) {w : World} {c : Array Value}, w.heap[b]? = some (.cells c t) → ∃ c', (w.setCells b o vs).heap[b]? = some (.cells c' t) ∧ c'.size = c.size
 | [], _, _, c, h => ⟨c, h, rfl⟩
 | v :: vs, o, w, c, h => by
  obtain ⟨c', h1, h2⟩ := block_sets vs (o + 1) (block_setAt h o v)
  exact ⟨c', h1, by rw [h2]; simp⟩

/-- The first k of n records of a row in block g have been laid. -/
def FillO (g n k : Nat) (er el eb ei : TypeId) (w : World) (rs : List Rec) : Prop :=
 ∃ (cur : Array Value) (f : Nat → Nat), w.heap[g]? = some (.cells cur er) ∧ cur.size = n * 7 ∧ g + 1 ≤ f 0 ∧ f k ≤ w.heap.size ∧
  ∀ i, i < k → f i ≤ f (i + 1) ∧ ∃ vn vt vx vi, w.rangeAt g (i * 7) (cellsR vn vt vx vi (rs.getD i recZ)) ∧ OwnR (f i) (f (i + 1)) el eb ei w vn vt vx vi (rs.getD i recZ)

theorem FillO.lt {g n k : Nat} {er el eb ei : TypeId} {w : World} {rs : List Rec} (h : FillO g n k er el eb ei w rs) : g < w.heap.size := by
 obtain ⟨cur, f, h1, _⟩ := h
 exact block_lt h1
theorem FillO.here {g n k : Nat} {er el eb ei : TypeId} {w : World} {rs : List Rec} (h : FillO g n k er el eb ei w rs) (hk : k < n) : w.there g (k * 7) 7 := by
 obtain ⟨cur, f, h1, h2, _⟩ := h
 intro j hj
 refine ⟨?_, block_frozen h1 _⟩
 rw [block_cell h1, Array.getElem?_eq_getElem (by omega)]
 rfl
theorem FillO.below {g n k : Nat} {er el eb ei : TypeId} {w w' : World} {rs : List Rec} (h : FillO g n k er el eb ei w rs) (hb : Below w.heap.size w w') : FillO g n k er el eb ei w' rs := by
 obtain ⟨cur, f, h1, h2, h3, h4, h5⟩ := h
 refine ⟨cur, f, block_kept hb h1, h2, h3, Nat.le_trans h4 hb.size, fun i hi => ?_⟩
 obtain ⟨q0, vn, vt, vx, vi, q1, q2⟩ := h5 i hi
 exact ⟨q0, vn, vt, vx, vi, range_below q1 (block_lt h1) hb, q2.below hb⟩
theorem FillO.low {g n k : Nat} {er el eb ei : TypeId} {w : World} {rs : List Rec} {f : Nat → Nat} (h3 : g + 1 ≤ f 0) (h5 : ∀ i, i < k → f i ≤ f (i + 1)) : ∀ i, i ≤ k → g + 1 ≤ f i
 | 0, _ => h3
 | i + 1, hi => Nat.le_trans (FillO.low (n := n) (er := er) (el := el) (eb := eb) (ei := ei) (w := w) (rs := rs) h3 h5 i (by omega)) (h5 i (by omega))
/-- One record more: it was made between two worlds. -/
theorem FillO.step {g n k : Nat} {er el eb ei : TypeId} {w w1 : World} {rs : List Rec} (h : FillO g n k er el eb ei w rs) (hb : Below w.heap.size w w1) (hk : k < n) {vn vt vx vi : Value} (ho : OwnR w.heap.size w1.heap.size el eb ei w1 vn vt vx vi (rs.getD k recZ)) :
  FillO g n (k + 1) er el eb ei (w1.setCells g (k * 7) (cellsR vn vt vx vi (rs.getD k recZ))) rs := by
 have ht := (h.below hb).here hk
 obtain ⟨cur, f, h1, h2, h3, h4, h5⟩ := h
 have u := outside_sets g (cellsR vn vt vx vi (rs.getD k recZ)) (k * 7) w1
 obtain ⟨c', e1, e2⟩ := block_sets (cellsR vn vt vx vi (rs.getD k recZ)) (k * 7) (block_kept hb h1)
 have hg := block_lt h1
 have hz := hb.size
 have hu := u.size
 have hlow := FillO.low (n := n) (er := er) (el := el) (eb := eb) (ei := ei) (w := w) (rs := rs) h3 (fun i hi => (h5 i hi).1)
 refine ⟨c', fun i => if i < k then f i else if i = k then w.heap.size else w1.heap.size, e1, by rw [e2, h2], ?_, ?_, fun i hi => ?_⟩
 ·by_cases e : 0 < k
  ·simp only [e, if_true]; exact h3
  ·have : k = 0 := by omega
   subst this
   simp only [Nat.lt_irrefl, if_false, if_true]
   omega
 ·simp only [show ¬ k + 1 < k by omega, show ¬ k + 1 = k by omega, if_false]
  exact hu
 ·by_cases e : i = k
  ·subst e
   simp only [Nat.lt_irrefl, if_false, if_true, show ¬ i + 1 < i by omega, show ¬ i + 1 = i by omega]
   exact ⟨hz, vn, vt, vx, vi, World.rangeAt_setCells_same _ _ _ _ ht, ho.outside u (.inr (by omega))⟩
  ·obtain ⟨q0, xn, xt, xx, xi, q1, q2⟩ := h5 i (by omega)
   have hli := hlow i (by omega)
   have q1' := World.rangeAt_setCells_apart (range_below q1 hg hb) g (k * 7) (cellsR vn vt vx vi (rs.getD k recZ)) (.inr (.inl (by show i * 7 + 7 ≤ k * 7; omega)))
   simp only [show i < k by omega, if_true]
   by_cases e' : i + 1 < k
   ·simp only [e', if_true]
    exact ⟨q0, xn, xt, xx, xi, q1', (q2.below hb).outside u (.inr (by omega))⟩
   ·have e2 : i + 1 = k := by omega
    simp only [e2, Nat.lt_irrefl, if_false, if_true]
    rw [e2] at q0 q2
    exact ⟨by omega, xn, xt, xx, xi, q1', (((q2.below hb).outside u (.inr (by omega)))).wide (Nat.le_refl _) h4⟩
theorem FillO.row {g n : Nat} {er el eb ei : TypeId} {w : World} {rs : List Rec} (h : FillO g n n er el eb ei w rs) (hn : rs.length = n) (hm : n ≤ maxLen) : RowO g w.heap.size er el eb ei w (.slice (some ⟨g, 0, none⟩) n n) rs := by
 subst hn
 obtain ⟨cur, f, h1, h2, h3, h4, h5⟩ := h
 have hlow := FillO.low (n := rs.length) (er := er) (el := el) (eb := eb) (ei := ei) (w := w) (rs := rs) h3 (fun i hi => (h5 i hi).1)
 have hup : ∀ d i, i + d = rs.length → f i ≤ f rs.length := by
  intro d
  induction d with
  | zero => intro i hi; rw [show i = rs.length by omega]; exact Nat.le_refl _
  | succ d ih => intro i hi; exact Nat.le_trans (h5 i (by omega)).1 (ih (i + 1) (by omega))
 have hmono : ∀ d i, i + d ≤ rs.length → f i ≤ f (i + d) := by
  intro d
  induction d with
  | zero => intro i hi; exact Nat.le_refl _
  | succ d ih => intro i hi; exact Nat.le_trans (ih i (by omega)) (h5 (i + d) (by omega)).1
 refine ⟨cur.toList, f, fun i => f (i + 1), ⟨by simpa using h2, .inr ⟨g, rs.length, cur, rfl, Nat.le_refl _, h1, Nat.le_refl _, hm, h2, List.take_of_length_le (by rw [Array.length_toList, h2]; exact Nat.le_refl _)⟩⟩, fun q e => ?_, fun i hi => ?_⟩
 ·injection e with e
  subst e
  exact block_lt h1
 ·obtain ⟨q0, vn, vt, vx, vi, q1, q2⟩ := h5 i hi
  have := hlow i (by omega)
  refine ⟨by omega, Nat.le_trans (hup (rs.length - (i + 1)) (i + 1) (by omega)) h4, fun k hk => ?_, fun q e => ?_, vn, vt, vx, vi, fun j u hj => ?_, q2⟩
  ·have := hmono (i - (k + 1)) (k + 1) (by omega)
   rwa [show k + 1 + (i - (k + 1)) = i by omega] at this
  ·injection e with e
   have e' : g = q := e
   omega
  ·have := q1 j u hj
   rw [block_cell h1] at this
   simpa using this

/-! Marks in a row. -/
end Go.Proofs.Ytjgfljndeolmoaa
