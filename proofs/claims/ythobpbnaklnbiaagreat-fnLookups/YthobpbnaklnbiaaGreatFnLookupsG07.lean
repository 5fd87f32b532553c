/-
  Plain facts: a row of structs that a slice owns, c cells each, each with lists of its own in a stretch of blocks of its own. No program is named here. Contracts of the program's kindOf and TypeOk, and of the specification's TypeOk. Plain facts: which records may be. No program is named here. Plain facts: what an update asks for. No program is named here. Plain facts: questions, wants and messages as lists and numbers, and how they lie in memory. No program is named here. Rows of drawn structs: their cells, and what these lead to, in blocks that are known by their types. The cursor of a draw, and what has turned since it began.
-/
import Derived.Test.YthobpbnaklnbiaaGreatFnLookupsG06
import Derived.Test.YthobpbnaklnbiaaGreatFnLookupsG01
import Derived.Test.YthobpbnaklnbiaaGreatFnLookupsG05
import Derived.Test.YthobpbnaklnbiaaGreatFnLookupsG04
namespace Go.Proofs.YthobpbnaklnbiaaGreat
open Go.RowKit
set_option linter.unusedVariables false

theorem idx_lt {i n j c : Nat} (hi : i < n) (hj : j < c) : i * c + j < n * c := by
 have := Nat.mul_le_mul_right c (show i + 1 ≤ n from hi)
 rw [Nat.add_mul, Nat.one_mul] at this
 omega
theorem idx_le {i k c : Nat} (hi : i < k) : i * c + c ≤ k * c := by
 have := Nat.mul_le_mul_right c (show i + 1 ≤ k from hi)
 rwa [Nat.add_mul, Nat.one_mul] at this

def RowX {α : Type} (c : Nat) (O : Nat → Nat → World → List Value → α → Prop) (d : α) (B E : Nat) (e : TypeId) (w : World) (v : Value) (xs : List α) : Prop :=
 ∃ (cs : List Value) (f g : Nat → Nat), w.ownsRow B e c v xs.length cs ∧ (∀ q, v.ownBlock = some q → q < E) ∧
  ∀ i, i < xs.length → B ≤ f i ∧ g i ≤ E ∧ (∀ k, k < i → g k ≤ f i) ∧ (∀ q, v.ownBlock = some q → q < f i ∨ g i ≤ q) ∧
   ∃ vs, (∀ j u, vs[j]? = some u → cs[i * c + j]? = some u) ∧ O (f i) (g i) w vs (xs.getD i d)
section
variable {α : Type} {c : Nat} {O : Nat → Nat → World → List Value → α → Prop} {d : α} {B E : Nat} {e : TypeId} {w w' : World} {v : Value} {xs : List α}
theorem RowX.nil (w : World) : RowX c O d B E e w (.slice none 0 0) [] :=
 ⟨[], fun _ => 0, fun _ => 0, World.ownsRow_nil _ _ _ _, (fun q hq => by cases hq), fun i hi => absurd hi (by simp)⟩
theorem RowX.has {H : World → List Value → α → Prop} (hO : OwnsG c O) (hE : ∀ {B e : Nat} {w : World} {vs : List Value} {x : α}, O B e w vs x → H w vs x) (h : RowX c O d B E e w v xs) : HasG c H d w v xs := by
 obtain ⟨cs, f, g, ho, _, hx⟩ := h
 have ho' := ho
 rcases ho.2 with ⟨rfl, hn⟩ | ⟨b, cap, cur, rfl, hB, hg, hn, hm, hs, ht⟩
 ·exact .inl ⟨rfl, List.eq_nil_of_length_eq_zero hn⟩
 ·refine .inr ⟨b, 0, cap, rfl, VC hg, hn, hm, fun i hi => ?_⟩
  obtain ⟨_, _, _, _, vs, q1, q2⟩ := hx i hi
  refine ⟨vs, fun j u hj => ?_, hE q2⟩
  have hjc : j < c := by rw [← hO.cells q2]; exact (List.getElem?_eq_some_iff.1 hj).1
  rw [Nat.zero_add, World.ownsRow.cellAt ho' (i * c + j) (idx_lt hi hjc)]
  exact q1 j u hj
theorem RowX.form (h : RowX c O d B E e w v xs) : ∃ a cap, v = .slice a xs.length cap ∧ xs.length ≤ cap ∧ cap ≤ maxLen := by
 obtain ⟨cs, f, g, ho, _, hx⟩ := h
 rcases ho.2 with ⟨rfl, hn⟩ | ⟨b, cap, cur, rfl, hB, hg, hn, hm, hs, ht⟩
 ·have := List.eq_nil_of_length_eq_zero hn
  subst this
  exact ⟨none, 0, rfl, Nat.le_refl _, Nat.zero_le _⟩
 ·exact ⟨_, cap, rfl, hn, hm⟩
theorem RowX.wide {B' E' : Nat} (h : RowX c O d B E e w v xs) (hB : B' ≤ B) (hE : E ≤ E') : RowX c O d B' E' e w v xs := by
 obtain ⟨cs, f, g, ho, hq, hx⟩ := h
 refine ⟨cs, f, g, ?_, fun q e => Nat.lt_of_lt_of_le (hq q e) hE, fun i hi => ?_⟩
 ·refine ⟨ho.1, ?_⟩
  rcases ho.2 with hn | ⟨b, cap, cur, hv, hb, rest⟩
  ·exact .inl hn
  ·exact .inr ⟨b, cap, cur, hv, Nat.le_trans hB hb, rest⟩
 ·obtain ⟨h1, h2, h3⟩ := hx i hi
  exact ⟨Nat.le_trans hB h1, Nat.le_trans h2 hE, h3⟩
theorem RowX.outside (hO : OwnsG c O) {C D : Nat} (h : RowX c O d B E e w v xs) (u : Outside C D w w') (hd : E ≤ C ∨ D ≤ B) : RowX c O d B E e w' v xs := by
 obtain ⟨cs, f, g, ho, hq, hx⟩ := h
 refine ⟨cs, f, g, ownsRow_out ho u (fun q e => ?_), hq, fun i hi => ?_⟩
 ·have h1 := hq q e
  have h2 := (World.ownsRow.lt ho q e).1
  omega
 ·obtain ⟨h1, h2, h3, h4, vs, q1, q2⟩ := hx i hi
  exact ⟨h1, h2, h3, h4, vs, q1, hO.outside q2 u (by omega)⟩
theorem RowX.below (hO : OwnsG c O) (h : RowX c O d B E e w v xs) (hb : Below w.heap.size w w') : RowX c O d B E e w' v xs := by
 obtain ⟨cs, f, g, ho, hq, hx⟩ := h
 refine ⟨cs, f, g, row_later ho hb, hq, fun i hi => ?_⟩
 obtain ⟨h1, h2, h3, h4, vs, q1, q2⟩ := hx i hi
 exact ⟨h1, h2, h3, h4, vs, q1, hO.below q2 hb⟩
theorem RowX.mark (hO : OwnsG c O) {m : Nat} {x' : α} {f g : Nat → Nat} {cs cs' vs' : List Value} (hm : m < xs.length)
  (h0 : ∀ q, v.ownBlock = some q → q < E) (hx : ∀ i, i < xs.length → B ≤ f i ∧ g i ≤ E ∧ (∀ k, k < i → g k ≤ f i) ∧ (∀ q, v.ownBlock = some q → q < f i ∨ g i ≤ q) ∧
   ∃ vs, (∀ j u, vs[j]? = some u → cs[i * c + j]? = some u) ∧ O (f i) (g i) w vs (xs.getD i d))
  (ho : w'.ownsRow B e c v xs.length cs') (hxs : ∀ i j, i ≠ m → j < c → cs'[i * c + j]? = cs[i * c + j]?) (hr : ∀ j u, vs'[j]? = some u → cs'[m * c + j]? = some u) (hr2 : O (f m) (g m) w' vs' x')
  (hu : ∀ i, i < xs.length → i ≠ m → ∀ vs, O (f i) (g i) w vs (xs.getD i d) → O (f i) (g i) w' vs (xs.getD i d)) : RowX c O d B E e w' v (xs.set m x') := by
 refine ⟨cs', f, g, by rw [List.length_set]; exact ho, h0, fun i hi => ?_⟩
 rw [List.length_set] at hi
 obtain ⟨h1, h2, h3, h4, us, q1, q2⟩ := hx i hi
 by_cases e : i = m
 ·subst e
  have e1 : (xs.set i x').getD i d = x' := by simp [List.getD, hm]
  rw [e1]
  exact ⟨h1, h2, h3, h4, vs', hr, hr2⟩
 ·have e1 : (xs.set m x').getD i d = xs.getD i d := by simp [List.getD, List.getElem?_set_ne (Ne.symm e)]
  rw [e1]
  exact ⟨h1, h2, h3, h4, us, fun j u hj => by rw [hxs i j e (by rw [← hO.cells q2]; exact (List.getElem?_eq_some_iff.1 hj).1)]; exact q1 j u hj, hu i hi e _ q2⟩
end
def FillX {α : Type} (c : Nat) (O : Nat → Nat → World → List Value → α → Prop) (d : α) (g n k : Nat) (e : TypeId) (w : World) (xs : List α) : Prop :=
 ∃ (cur : Array Value) (f : Nat → Nat), w.heap[g]? = some (.cells cur e) ∧ cur.size = n * c ∧ g + 1 ≤ f 0 ∧ f k ≤ w.heap.size ∧
  ∀ i, i < k → f i ≤ f (i + 1) ∧ ∃ vs, w.rangeAt g (i * c) vs ∧ O (f i) (f (i + 1)) w vs (xs.getD i d)
theorem fill_low {g k : Nat} {f : Nat → Nat} (h3 : g + 1 ≤ f 0) (h5 : ∀ i, i < k → f i ≤ f (i + 1)) : ∀ i, i ≤ k → g + 1 ≤ f i
 | 0, _ => h3
 | i + 1, hi => Nat.le_trans (fill_low h3 h5 i (by omega)) (h5 i (by omega))
section
variable {α : Type} {c : Nat} {O : Nat → Nat → World → List Value → α → Prop} {d : α} {g n k : Nat} {e : TypeId} {w w' w1 : World} {xs : List α}
theorem FillX.lt (h : FillX c O d g n k e w xs) : g < w.heap.size := by
 obtain ⟨cur, f, h1, _⟩ := h
 exact VC h1
theorem FillX.here (h : FillX c O d g n k e w xs) (hk : k < n) : w.there g (k * c) c := by
 obtain ⟨cur, f, h1, h2, _⟩ := h
 intro j hj
 refine ⟨?_, VG h1 _⟩
 have := idx_lt hk hj
 rw [VE h1, Array.getElem?_eq_getElem (by omega)]
 rfl
theorem FillX.below (hO : OwnsG c O) (h : FillX c O d g n k e w xs) (hb : Below w.heap.size w w') : FillX c O d g n k e w' xs := by
 obtain ⟨cur, f, h1, h2, h3, h4, h5⟩ := h
 refine ⟨cur, f, UE hb h1, h2, h3, Nat.le_trans h4 hb.size, fun i hi => ?_⟩
 obtain ⟨q0, vs, q1, q2⟩ := h5 i hi
 exact ⟨q0, vs, UW q1 (VC h1) hb, hO.below q2 hb⟩
theorem FillX.step (hO : OwnsG c O) (h : FillX c O d g n k e w xs) (hb : Below w.heap.size w w1) (hk : k < n) {vs : List Value} (ho : O w.heap.size w1.heap.size w1 vs (xs.getD k d)) :
  FillX c O d g n (k + 1) e (w1.setCells g (k * c) vs) xs := by
 have ht := (h.below hO hb).here hk
 have hcl := hO.cells ho
 obtain ⟨cur, f, h1, h2, h3, h4, h5⟩ := h
 have u := outside_sets g vs (k * c) w1
 obtain ⟨c', e1, e2⟩ := block_sets vs (k * c) (UE hb h1)
 have hg := VC h1
 have hz := hb.size
 have hu := u.size
 have hlow := fill_low h3 (fun i hi => (h5 i hi).1)
 refine ⟨c', fun i => if i < k then f i else if i = k then w.heap.size else w1.heap.size, e1, by rw [e2, h2], ?_, ?_, fun i hi => ?_⟩
 ·by_cases e : 0 < k
  ·simp only [e, if_true]; exact h3
  ·have : k = 0 := by omega
   subst this
   simp only [Nat.lt_irrefl, if_false, if_true]
   omega
 ·simp only [show ¬ k + 1 < k by omega, show ¬ k + 1 = k by omega, if_false]
  exact hu
 ·by_cases e : i = k
  ·subst e
   simp only [Nat.lt_irrefl, if_false, if_true, show ¬ i + 1 < i by omega, show ¬ i + 1 = i by omega]
   exact ⟨hz, vs, World.rangeAt_setCells_same _ _ _ _ (by rw [hcl]; exact ht), hO.outside ho u (.inr (by omega))⟩
  ·obtain ⟨q0, us, q1, q2⟩ := h5 i (by omega)
   have hli := hlow i (by omega)
   have q1' := World.rangeAt_setCells_apart (UW q1 hg hb) g (k * c) vs (.inr (.inl (by rw [hO.cells q2]; exact idx_le (by omega))))
   simp only [show i < k by omega, if_true]
   by_cases e' : i + 1 < k
   ·simp only [e', if_true]
    exact ⟨q0, us, q1', hO.outside (hO.below q2 hb) u (.inr (by omega))⟩
   ·have e2 : i + 1 = k := by omega
    simp only [e2, Nat.lt_irrefl, if_false, if_true]
    rw [e2] at q0 q2
    exact ⟨by omega, us, q1', hO.wide (hO.outside (hO.below q2 hb) u (.inr (by omega))) (Nat.le_refl _) h4⟩
theorem FillX.row (hO : OwnsG c O) (h : FillX c O d g n n e w xs) (hn : xs.length = n) (hm : n ≤ maxLen) : RowX c O d g w.heap.size e w (.slice (some ⟨g, 0, none⟩) n n) xs := by
 subst hn
 obtain ⟨cur, f, h1, h2, h3, h4, h5⟩ := h
 have hlow := fill_low h3 (fun i hi => (h5 i hi).1)
 have hup : ∀ d i, i + d = xs.length → f i ≤ f xs.length := by
  intro d
  induction d with
  | zero => intro i hi; rw [show i = xs.length by omega]; exact Nat.le_refl _
  | succ d ih => intro i hi; exact Nat.le_trans (h5 i (by omega)).1 (ih (i + 1) (by omega))
 have hmono : ∀ d i, i + d ≤ xs.length → f i ≤ f (i + d) := by
  intro d
  induction d with
  | zero => intro i hi; exact Nat.le_refl _
  | succ d ih => intro i hi; exact Nat.le_trans (ih i (by omega)) (h5 (i + d) (by omega)).1
 refine ⟨cur.toList, f, fun i => f (i + 1), ⟨by simpa using h2, .inr ⟨g, xs.length, cur, rfl, Nat.le_refl _, h1, Nat.le_refl _, hm, h2, List.take_of_length_le (by rw [Array.length_toList, h2]; exact Nat.le_refl _)⟩⟩, fun q e => ?_, fun i hi => ?_⟩
 ·injection e with e
  subst e
  exact VC h1
 ·obtain ⟨q0, vs, q1, q2⟩ := h5 i hi
  have := hlow i (by omega)
  refine ⟨by omega, Nat.le_trans (hup (xs.length - (i + 1)) (i + 1) (by omega)) h4, fun k hk => ?_, fun q e => ?_, vs, fun j u hj => ?_, q2⟩
  ·have := hmono (i - (k + 1)) (k + 1) (by omega)
   rwa [show k + 1 + (i - (k + 1)) = i by omega] at this
  ·injection e with e
   have e' : g = q := e
   omega
  ·have := q1 j u hj
   rw [VE h1] at this
   simpa using this
end
set_option maxHeartbeats 800000
set_option maxRecDepth 100000

def typeOk (t : Int) : Bool := decide (t = 1 ∨ t = 2 ∨ t = 5 ∨ t = 6 ∨ t = 12 ∨ t = 16 ∨ t = 49)

def kindV (t : Int) : Value := if t = 1 then .iface 125 (.agg #[.int .i64 0]) else if t = 2 ∨ t = 5 ∨ t = 12 then .iface 127 (.agg #[.slice none 0 0]) else if t = 6 then .iface 129 (.agg #[.slice none 0 0, .slice none 0 0]) else if t = 16 ∨ t = 49 then .iface 131 (.agg #[.slice none 0 0]) else .nilIface

theorem type_cases (t : Int) : t = 1 ∨ t = 2 ∨ t = 5 ∨ t = 6 ∨ t = 12 ∨ t = 16 ∨ t = 49 ∨ typeOk t = false := by
 by_cases h : t = 1 ∨ t = 2 ∨ t = 5 ∨ t = 6 ∨ t = 12 ∨ t = 16 ∨ t = 49
 ·omega
 ·have : typeOk t = false := decide_eq_false h
  simp [this]
theorem type_other {t : Int} (h : typeOk t = false) : (t == 1) = false ∧ (t == 2) = false ∧ (t == 5) = false ∧ (t == 6) = false ∧ (t == 12) = false ∧ (t == 16) = false ∧ (t == 49) = false := by
 have h' : ¬ (t = 1 ∨ t = 2 ∨ t = 5 ∨ t = 6 ∨ t = 12 ∨ t = 16 ∨ t = 49) := of_decide_eq_false h
 simp only [beq_eq_false_iff_ne]
 omega
theorem kindV_other {t : Int} (h : typeOk t = false) : kindV t = .nilIface := by
 have h' : ¬ (t = 1 ∨ t = 2 ∨ t = 5 ∨ t = 6 ∨ t = 12 ∨ t = 16 ∨ t = 49) := of_decide_eq_false h
 unfold kindV
 rw [if_neg (by omega), if_neg (by omega), if_neg (by omega), if_neg (by omega)]

theorem kindOf_any (t : Int) (w : World) : Calls Tryz.prog 86 #[.int .i64 t] w fun e w' => e = .returned (kindV t) ∧ w = w' := by
 rcases type_cases t with rfl | rfl | rfl | rfl | rfl | rfl | rfl | h
 iterate 7
  ·go_enter Tryz.func86, Tryz.ntmps86
   go_wp2
   go_ret
   exact ⟨rfl, rfl⟩
 ·obtain ⟨h1, h2, h3, h4, h5, h6, h7⟩ := type_other h
  rw [kindV_other h]
  go_enter Tryz.func86, Tryz.ntmps86
  go_wp2
  go_ret
  exact ⟨rfl, rfl⟩

theorem specTypeOk_any (t : Int) (w : World) : Calls Tryz.prog 64 #[.int .i64 t] w fun e w' => e = .returned (.bool (typeOk t)) ∧ w = w' := by
 rcases type_cases t with rfl | rfl | rfl | rfl | rfl | rfl | rfl | h
 iterate 7
  ·go_enter Tryz.func64, Tryz.ntmps64
   go_wp2
   go_ret
   exact ⟨rfl, rfl⟩
 ·obtain ⟨h1, h2, h3, h4, h5, h6, h7⟩ := type_other h
  rw [h]
  go_enter Tryz.func64, Tryz.ntmps64
  go_wp2
  go_ret
  exact ⟨rfl, rfl⟩

theorem implTypeOk_any (t : Int) (w : World) : Calls Tryz.prog 54 #[.int .i64 t] w fun e w' => e = .returned (.bool (typeOk t)) ∧ w = w' := by
 have hk : (kindV t = .nilIface ∧ typeOk t = false) ∨ ∃ ty v, kindV t = .iface ty v ∧ typeOk t = true := by
  rcases type_cases t with rfl | rfl | rfl | rfl | rfl | rfl | rfl | h
  iterate 7 exact .inr ⟨_, _, rfl, rfl⟩
  exact .inl ⟨kindV_other h, h⟩
 go_enter Tryz.func54, Tryz.ntmps54
 go_wp2_with fail
 refine (kindOf_any t _).mono ?_
 rintro e w1 ⟨rfl, rfl⟩
 rcases hk with ⟨h1, h2⟩ | ⟨ty, v, h1, h2⟩
 ·rw [h1]
  go_wp2
  go_ret
  exact ⟨by rw [h2]; rfl, rfl⟩
 ·rw [h1]
  go_wp2
  go_ret
  exact ⟨by rw [h2]; rfl, rfl⟩
end Go.Proofs.YthobpbnaklnbiaaGreat

namespace Go.Proofs.YthobpbnaklnbiaaGreat
open Go.RowKit

def named (t : Int) : Bool := decide (t = 2 ∨ t = 5 ∨ t = 6 ∨ t = 12)
def texted (t : Int) : Bool := decide (t = 16 ∨ t = 49)

def dataOk (r : Rec) : Bool :=
 (if r.type = 1 then decide (0 ≤ r.addr ∧ r.addr ≤ 4294967295) else decide (r.addr = 0)) && ((if named r.type = true then nameOk r.to else decide (r.to.length = 0)) && ((if texted r.type = true then decide (r.text.length ≤ 40) else decide (r.text.length = 0)) &&
 (if r.type = 6 then decide (r.nums.length = 2 ∧ 0 ≤ r.nums.getD 0 0 ∧ r.nums.getD 0 0 ≤ 4294967295 ∧ 0 ≤ r.nums.getD 1 0 ∧ r.nums.getD 1 0 ≤ 100000) else decide (r.nums.length = 0))))
def rrOk (r : Rec) : Bool := nameOk r.name && (typeOk r.type && (decide (0 ≤ r.ttl ∧ r.ttl ≤ 100000) && dataOk r))

theorem HasI.two {w : World} {v : Value} {x y : Int} (h : HasI w v [x, y]) : ∃ g off cap, v = .slice (some ⟨g, off, none⟩) 2 cap ∧ g < w.heap.size ∧ w.cell? ⟨g, off, none⟩ = some (.int .i64 x) ∧ w.cell? ⟨g, off + 1, none⟩ = some (.int .i64 y) := by
 rcases h with ⟨_, h⟩ | ⟨g, off, cap, hv, hlt, _, _, hc⟩
 ·cases h
 ·exact ⟨g, off, cap, hv, hlt, hc 0 (by simp), hc 1 (by simp)⟩
theorem two_of {l : List Int} (h : l.length = 2) : ∃ x y, l = [x, y] := by
 match l, h with
 | [x, y], _ => exact ⟨x, y, rfl⟩
theorem nil_of {α : Type} {l : List α} (h : l.length = 0) : l = [] := List.eq_nil_of_length_eq_zero h
end Go.Proofs.YthobpbnaklnbiaaGreat

namespace Go.Proofs.YthobpbnaklnbiaaGreat
open Go.RowKit
set_option linter.unusedVariables false

def asked (t : Int) : Bool := typeOk t || decide (t = 255)
structure Que where
 name : List (List Int)
 type : Int
structure Wnt where
 rr : Rec
 cls : Int
 bare : Bool
structure Mg where
 id : Int
 reply : Bool
 op : Int
 auth : Bool
 code : Int
 qs : List Que
 ans : List Rec
 aus : List Rec
 more : List Rec
 pres : List Wnt
 ups : List Wnt
def queZ : Que := ⟨[], 0⟩
def wntZ : Wnt := ⟨recZ, 0, false⟩

def InQu (w : World) (vs : List Value) (q : Que) : Prop := ∃ a c, vs = [.slice a q.name.length c, .int .i64 q.type] ∧ LiesL w a q.name
def HasQu (w : World) (vs : List Value) (q : Que) : Prop := ∃ v, vs = [v, .int .i64 q.type] ∧ HasL w v q.name
def OwnQu (el eb : TypeId) (B E : Nat) (w : World) (vs : List Value) (q : Que) : Prop := ∃ v, vs = [v, .int .i64 q.type] ∧ OwnN B E el eb w v q.name
def InWn (w : World) (vs : List Value) (x : Wnt) : Prop := ∃ an cn ato ct ax cx ai ci, vs = [.slice an x.rr.name.length cn, .int .i64 x.rr.type, .int .i64 x.rr.ttl, .int .i64 x.rr.addr, .slice ato x.rr.to.length ct, .slice ax x.rr.text.length cx, .slice ai x.rr.nums.length ci, .int .i64 x.cls, .bool x.bare] ∧ InR w an ato ax ai x.rr
def HasWn (w : World) (vs : List Value) (x : Wnt) : Prop := ∃ vn vt vx vi, vs = [vn, .int .i64 x.rr.type, .int .i64 x.rr.ttl, .int .i64 x.rr.addr, vt, vx, vi, .int .i64 x.cls, .bool x.bare] ∧ HasR w vn vt vx vi x.rr
def OwnWn (el eb ei : TypeId) (B E : Nat) (w : World) (vs : List Value) (x : Wnt) : Prop := ∃ vn vt vx vi, vs = [vn, .int .i64 x.rr.type, .int .i64 x.rr.ttl, .int .i64 x.rr.addr, vt, vx, vi, .int .i64 x.cls, .bool x.bare] ∧ OwnR B E el eb ei w vn vt vx vi x.rr
theorem stays_InQu : Stays InQu := fun h hb => by obtain ⟨a, c, h1, h2⟩ := h; exact ⟨a, c, h1, h2.below hb⟩
theorem stays_HasQu : Stays HasQu := fun h hb => by obtain ⟨v, h1, h2⟩ := h; exact ⟨v, h1, h2.below hb⟩
theorem stays_InWn : Stays InWn := fun h hb => by obtain ⟨an, cn, ato, ct, ax, cx, ai, ci, h1, h2⟩ := h; exact ⟨an, cn, ato, ct, ax, cx, ai, ci, h1, h2.below hb⟩
theorem stays_HasWn : Stays HasWn := fun h hb => by obtain ⟨vn, vt, vx, vi, h1, h2⟩ := h; exact ⟨vn, vt, vx, vi, h1, h2.below hb⟩
theorem OwnQu.has {el eb : TypeId} {B E : Nat} {w : World} {vs : List Value} {q : Que} (h : OwnQu el eb B E w vs q) : HasQu w vs q := by obtain ⟨v, h1, h2⟩ := h; exact ⟨v, h1, h2.hasL⟩
theorem OwnWn.has {el eb ei : TypeId} {B E : Nat} {w : World} {vs : List Value} {x : Wnt} (h : OwnWn el eb ei B E w vs x) : HasWn w vs x := by obtain ⟨vn, vt, vx, vi, h1, h2⟩ := h; exact ⟨vn, vt, vx, vi, h1, h2.hasR⟩
structure SizeQu (m : Nat) (q : Que) : Prop where
 name : q.name.length ≤ m
 names : ∀ i, i < q.name.length → (q.name.getD i []).length ≤ m
theorem SizeQu.mono {m m' : Nat} {q : Que} (h : SizeQu m q) (hm : m ≤ m') : SizeQu m' q := ⟨Nat.le_trans h.name hm, fun i hi => Nat.le_trans (h.names i hi) hm⟩

abbrev LiesQs (w : World) (a : Option Addr) (l : List Que) : Prop := LiesG 2 InQu queZ w a l
abbrev HasQs (w : World) (v : Value) (l : List Que) : Prop := HasG 2 HasQu queZ w v l
abbrev LiesWs (w : World) (a : Option Addr) (l : List Wnt) : Prop := LiesG 9 InWn wntZ w a l
abbrev HasWs (w : World) (v : Value) (l : List Wnt) : Prop := HasG 9 HasWn wntZ w v l

structure InM (w : World) (aq aa ab am ap au : Option Addr) (m : Mg) : Prop where
 qs : LiesQs w aq m.qs
 ans : LiesRs w aa m.ans
 aus : LiesRs w ab m.aus
 more : LiesRs w am m.more
 pres : LiesWs w ap m.pres
 ups : LiesWs w au m.ups
theorem InM.below {w w' : World} {aq aa ab am ap au : Option Addr} {m : Mg} (h : InM w aq aa ab am ap au m) (hb : Below w.heap.size w w') : InM w' aq aa ab am ap au m :=
 ⟨LiesG.below stays_InQu h.qs hb, h.ans.below hb, h.aus.below hb, h.more.below hb, LiesG.below stays_InWn h.pres hb, LiesG.below stays_InWn h.ups hb⟩
structure HasM (w : World) (vq va vb vm vp vu : Value) (m : Mg) : Prop where
 qs : HasQs w vq m.qs
 ans : HasRs w va m.ans
 aus : HasRs w vb m.aus
 more : HasRs w vm m.more
 pres : HasWs w vp m.pres
 ups : HasWs w vu m.ups
theorem HasM.below {w w' : World} {vq va vb vm vp vu : Value} {m : Mg} (h : HasM w vq va vb vm vp vu m) (hb : Below w.heap.size w w') : HasM w' vq va vb vm vp vu m :=
 ⟨HasG.below stays_HasQu h.qs hb, h.ans.below hb, h.aus.below hb, h.more.below hb, HasG.below stays_HasWn h.pres hb, HasG.below stays_HasWn h.ups hb⟩
structure SizeM (s : Nat) (m : Mg) : Prop where
 qs : ∀ i, i < m.qs.length → SizeQu s (m.qs.getD i queZ)
 ans : ∀ i, i < m.ans.length → SizeR s (m.ans.getD i recZ)
 aus : ∀ i, i < m.aus.length → SizeR s (m.aus.getD i recZ)
 more : ∀ i, i < m.more.length → SizeR s (m.more.getD i recZ)
 pres : ∀ i, i < m.pres.length → SizeR s (m.pres.getD i wntZ).rr
 ups : ∀ i, i < m.ups.length → SizeR s (m.ups.getD i wntZ).rr
theorem SizeM.mono {s s' : Nat} {m : Mg} (h : SizeM s m) (hm : s ≤ s') : SizeM s' m :=
 ⟨fun i hi => (h.qs i hi).mono hm, fun i hi => (h.ans i hi).mono hm, fun i hi => (h.aus i hi).mono hm, fun i hi => (h.more i hi).mono hm, fun i hi => (h.pres i hi).mono hm, fun i hi => (h.ups i hi).mono hm⟩
def Mg.count (m : Mg) : Nat := m.qs.length + m.ans.length + m.aus.length + m.more.length + m.pres.length + m.ups.length

structure DrawnG {α : Type} (c : Nat) (T : List TypeId) (D : World → List Value → α → Prop) : Prop where
 cells : ∀ {w : World} {vs : List Value} {x : α}, D w vs x → vs.length = c
 below : ∀ {w w' : World} {vs : List Value} {x : α}, D w vs x → Below w.heap.size w w' → D w' vs x
 off : ∀ {w w' : World} {vs : List Value} {x : α} {q : Nat} {t : TypeId} {cc : Array Value}, D w vs x → w.heap[q]? = some (.cells cc t) → t ∉ T → w.grownBy w' (some q) → D w' vs x
def RowDr {α : Type} (c : Nat) (D : World → List Value → α → Prop) (d : α) (B E : Nat) (e : TypeId) (w : World) (v : Value) (xs : List α) : Prop :=
 ∃ cs : List Value, w.ownsRow B e c v xs.length cs ∧ (∀ q, v.ownBlock = some q → q < E) ∧ ∀ i, i < xs.length → ∃ vs, (∀ j u, vs[j]? = some u → cs[i * c + j]? = some u) ∧ D w vs (xs.getD i d)
section
variable {α : Type} {c : Nat} {T : List TypeId} {D : World → List Value → α → Prop} {d : α} {B E : Nat} {e : TypeId} {w w' : World} {v : Value} {xs : List α}
theorem RowDr.nil (w : World) : RowDr c D d B E e w (.slice none 0 0) [] :=
 ⟨[], World.ownsRow_nil _ _ _ _, (fun q hq => by cases hq), fun i hi => absurd hi (by simp)⟩
theorem RowDr.own (h : RowDr c D d B E e w v xs) : ∃ cs, w.ownsRow B e c v xs.length cs := by obtain ⟨cs, h1, _⟩ := h; exact ⟨cs, h1⟩
theorem RowDr.where_ (h : RowDr c D d B E e w v xs) {q : Nat} (hq : v.ownBlock = some q) : B ≤ q ∧ q < E ∧ ∃ cur, w.heap[q]? = some (.cells cur e) := by
 obtain ⟨cs, h1, h2, _⟩ := h
 rcases h1.2 with ⟨rfl, _⟩ | ⟨g, cap, cur, rfl, hb, hg, _⟩
 ·cases hq
 ·have e1 : g = q := by simpa [Value.ownBlock] using hq
  subst e1
  exact ⟨hb, h2 g rfl, cur, hg⟩
theorem RowDr.keep (h : RowDr c D d B E e w v xs) (hg : w.grownBy w' v.ownBlock) {q : Nat} {t : TypeId} {cc : Array Value} (hk : w.heap[q]? = some (.cells cc t)) (ht : t ≠ e) : w'.heap[q]? = some (.cells cc t) := by
 refine (hg.block q (VC hk) fun e1 => ?_).trans hk
 obtain ⟨_, _, cur, h3⟩ := h.where_ e1.symm
 rw [hk] at h3
 simp at h3
 exact ht h3.2
theorem RowDr.wide {B' E' : Nat} (h : RowDr c D d B E e w v xs) (hB : B' ≤ B) (hE : E ≤ E') : RowDr c D d B' E' e w v xs := by
 obtain ⟨cs, h1, h2, h3⟩ := h
 refine ⟨cs, ⟨h1.1, ?_⟩, fun q hq => Nat.lt_of_lt_of_le (h2 q hq) hE, h3⟩
 rcases h1.2 with hn | ⟨g, cap, cur, hv, hb, rest⟩
 ·exact .inl hn
 ·exact .inr ⟨g, cap, cur, hv, Nat.le_trans hB hb, rest⟩
theorem RowDr.below (hD : DrawnG c T D) (h : RowDr c D d B E e w v xs) (hb : Below w.heap.size w w') : RowDr c D d B E e w' v xs := by
 obtain ⟨cs, h1, h2, h3⟩ := h
 refine ⟨cs, row_later h1 hb, h2, fun i hi => ?_⟩
 obtain ⟨vs, h4, h5⟩ := h3 i hi
 exact ⟨vs, h4, hD.below h5 hb⟩
theorem RowDr.off (hD : DrawnG c T D) (h : RowDr c D d B E e w v xs) {q : Nat} {t : TypeId} {cc : Array Value} (hk : w.heap[q]? = some (.cells cc t)) (ht : t ∉ T) (hq : t ≠ e ∨ q < B ∨ E ≤ q) (hg : w.grownBy w' (some q)) : RowDr c D d B E e w' v xs := by
 have hap : v.ownBlock ≠ some q := fun e1 => by
  obtain ⟨h1, h2, cur, h3⟩ := h.where_ e1
  rw [hk] at h3
  simp at h3
  rcases hq with hq | hq
  ·exact hq h3.2
  ·omega
 obtain ⟨cs, h1, h2, h3⟩ := h
 refine ⟨cs, World.ownsRow.kept h1 hg (.inr hap), h2, fun i hi => ?_⟩
 obtain ⟨vs, h4, h5⟩ := h3 i hi
 exact ⟨vs, h4, hD.off h5 hk ht hg⟩
theorem RowDr.apart (hD : DrawnG c T D) (h : RowDr c D d B E e w v xs) {c2 n B2 : Nat} {e2 : TypeId} {v2 : Value} {ys : List Value} (h2 : w.ownsRow B2 e2 c2 v2 n ys) (ht : e2 ∉ T) (hq : e2 ≠ e ∨ ∀ q, v2.ownBlock = some q → q < B ∨ E ≤ q) (hg : w.grownBy w' v2.ownBlock) : RowDr c D d B E e w' v xs := by
 rcases h2.2 with ⟨rfl, _⟩ | ⟨g, cap, cur, rfl, hb, hk, _⟩
 ·exact h.below hD (below_of_grown hg)
 ·refine h.off hD hk ht ?_ hg
  rcases hq with hq | hq
  ·exact .inl hq
  ·exact .inr (hq g rfl)
theorem RowDr.hasG {H : World → List Value → α → Prop} (hD : DrawnG c T D) (hH : ∀ {w : World} {vs : List Value} {x : α}, D w vs x → H w vs x) (h : RowDr c D d B E e w v xs) : HasG c H d w v xs := by
 obtain ⟨cs, ho, _, hx⟩ := h
 have ho' := ho
 rcases ho.2 with ⟨rfl, hn⟩ | ⟨b, cap, cur, rfl, hB, hg, hn, hm, hs, ht⟩
 ·exact .inl ⟨rfl, List.eq_nil_of_length_eq_zero hn⟩
 ·refine .inr ⟨b, 0, cap, rfl, VC hg, hn, hm, fun i hi => ?_⟩
  obtain ⟨vs, q1, q2⟩ := hx i hi
  refine ⟨vs, fun j u hj => ?_, hH q2⟩
  have hj7 : j < c := by have := (List.getElem?_eq_some_iff.1 hj).1; rw [hD.cells q2] at this; exact this
  rw [Nat.zero_add, World.ownsRow.cellAt ho' (i * c + j) (idx_lt hi hj7)]
  exact q1 j u hj
theorem RowDr.form (h : RowDr c D d B E e w v xs) : ∃ a cap, v = .slice a xs.length cap ∧ xs.length ≤ cap ∧ cap ≤ maxLen := by
 obtain ⟨cs, ho, _⟩ := h
 rcases ho.2 with ⟨rfl, hn⟩ | ⟨b, cap, cur, rfl, hB, hg, hn, hm, hs, ht⟩
 ·exact ⟨none, 0, by rw [hn], by omega, Nat.zero_le _⟩
 ·exact ⟨_, cap, rfl, hn, hm⟩
theorem RowDr.snoc (hD : DrawnG c T D) (h : RowDr c D d B E e w v xs) {v' : Value} {vs : List Value} {x : α} (hx : D w vs x) (he : e ∉ T) (hg : w.grownBy w' v.ownBlock)
  (ho : ∀ cs, w.ownsRow B e c v xs.length cs → w'.ownsRow B e c v' (xs.length + 1) (cs ++ vs)) : RowDr c D d B w'.heap.size e w' v' (xs ++ [x]) := by
 have keep : ∀ {vs : List Value} {x : α}, D w vs x → D w' vs x := fun {vs x} hd => by
  cases hb : v.ownBlock with
  | none => rw [hb] at hg; exact hD.below hd (below_of_grown hg)
  | some q =>
   obtain ⟨_, _, cur, hk⟩ := h.where_ hb
   rw [hb] at hg
   exact hD.off hd hk he hg
 obtain ⟨cs, h0, _, h2⟩ := h
 have ho' := ho cs h0
 have hlen : cs.length = xs.length * c := h0.1
 refine ⟨cs ++ vs, by rw [List.length_append]; exact ho', fun q e1 => (World.ownsRow.lt ho' q e1).2, fun i hi => ?_⟩
 rw [List.length_append] at hi
 simp only [List.length_cons, List.length_nil] at hi
 by_cases hlt : i < xs.length
 ·obtain ⟨us, q1, q2⟩ := h2 i hlt
  have e1 : (xs ++ [x]).getD i d = xs.getD i d := by rw [List.getD_eq_getElem?_getD, List.getElem?_append_left hlt, ← List.getD_eq_getElem?_getD]
  rw [e1]
  refine ⟨us, fun j u hj => ?_, keep q2⟩
  have := q1 j u hj
  have hl := (List.getElem?_eq_some_iff.1 this).1
  rw [List.getElem?_append_left hl]
  exact this
 ·obtain rfl : i = xs.length := by omega
  have e1 : (xs ++ [x]).getD xs.length d = x := by rw [List.getD_eq_getElem?_getD]; simp
  rw [e1]
  refine ⟨vs, fun j u hj => ?_, keep hx⟩
  rw [List.getElem?_append_right (by omega), hlen, Nat.add_sub_cancel_left]
  exact hj
theorem RowDr.one {q : Nat} {vs : List Value} {x : α} (hD : DrawnG c T D) (hk : w.heap[q]? = some (.cells vs.toArray e)) (hx : D w vs x) (hB : B ≤ q) (hE : q < E) : RowDr c D d B E e w (.slice (some ⟨q, 0, none⟩) 1 1) [x] := by
 have hl := hD.cells hx
 refine ⟨vs, ⟨by simp [hl], .inr ⟨q, 1, vs.toArray, rfl, hB, hk, Nat.le_refl _, by unfold maxLen; omega, by simp [hl], List.take_of_length_le (by simp [hl])⟩⟩, fun q' e1 => ?_, fun i hi => ?_⟩
 ·have : q = q' := by simpa [Value.ownBlock] using e1
  omega
 ·obtain rfl : i = 0 := by simpa using hi
  exact ⟨vs, fun j u hj => by rw [Nat.zero_mul, Nat.zero_add]; exact hj, hx⟩
end
def DrawRr (w : World) (vs : List Value) (r : Rec) : Prop := ∃ vn vt vx vi, vs = cellsR vn vt vx vi r ∧ DrawR w vn vt vx vi r
abbrev tysR : List TypeId := [22, 5, 3]
theorem drawnRr : DrawnG 7 tysR DrawRr where
 cells := fun h => by obtain ⟨vn, vt, vx, vi, rfl, _⟩ := h; rfl
 below := fun h hb => by obtain ⟨vn, vt, vx, vi, h1, h2⟩ := h; exact ⟨vn, vt, vx, vi, h1, h2.below hb⟩
 off := fun h hk ht hg => by
  obtain ⟨vn, vt, vx, vi, h1, h2⟩ := h
  simp only [List.mem_cons, List.not_mem_nil, or_false, not_or] at ht
  exact ⟨vn, vt, vx, vi, h1, h2.off hk ht.1 ht.2.1 ht.2.2 hg⟩
abbrev RowRd (B E : Nat) (w : World) (v : Value) (l : List Rec) : Prop := RowDr 7 DrawRr recZ B E 39 w v l
theorem RowRd.has {B E : Nat} {w : World} {v : Value} {l : List Rec} (h : RowRd B E w v l) : HasRs w v l := by
 have h' : HasG 7 (fun w vs r => ∃ vn vt vx vi, vs = cellsR vn vt vx vi r ∧ HasR w vn vt vx vi r) recZ w v l := RowDr.hasG drawnRr (fun h => by obtain ⟨vn, vt, vx, vi, h1, h2⟩ := h; exact ⟨vn, vt, vx, vi, h1, h2.hasR⟩) h
 rcases h' with h | ⟨g, off, cap, hv, hlt, hl, hm, hc⟩
 ·exact .inl h
 ·refine .inr ⟨g, off, cap, hv, hlt, hl, hm, fun i hi => ?_⟩
  obtain ⟨vs, h1, vn, vt, vx, vi, rfl, h3⟩ := hc i hi
  exact ⟨vn, vt, vx, vi, h1, h3⟩
structure CurX (w0 w : World) (g : Nat) (a : Option Addr) (len cap : Nat) : Prop where
 cur : Cur w g a len cap
 code : Code w g a len
 grown : w0.grownBy w (some g)
 lt : g < w0.heap.size
theorem CurX.row {w0 w w' : World} {g len cap : Nat} {a : Option Addr} {row : Option Nat} (h : CurX w0 w g a len cap) (hg : w.grownBy w' row) (hr : ∀ j, row = some j → w0.heap.size ≤ j) : CurX w0 w' g a len cap :=
 ⟨h.cur.later hg (fun j e => Nat.lt_of_lt_of_le h.lt (hr j e)), h.code.later hg (fun j e => Nat.le_of_lt (Nat.lt_of_lt_of_le h.lt (hr j e))), grown_own h.grown hg hr, h.lt⟩
theorem CurX.below {w0 w w' : World} {g len cap : Nat} {a : Option Addr} (h : CurX w0 w g a len cap) (hb : Below w.heap.size w w') : CurX w0 w' g a len cap := h.row (grown_of_below hb) (fun j e => by cases e)
theorem CurX.step {w0 w w' : World} {g len cap : Nat} {a : Option Addr} (h : CurX w0 w g a len cap) (hc : Cur w' g a len cap) (hg : w.grownBy w' (some g)) : CurX w0 w' g a len cap := ⟨hc, h.code.grown hg, grown_trans h.grown hg, h.lt⟩
theorem CurX.start {w : World} {g len cap : Nat} {a : Option Addr} (hc : Cur w g a len cap) (hL : Code w g a len) : CurX w w g a len cap := ⟨hc, hL, ⟨rfl, rfl, rfl, Nat.le_refl _, fun _ _ _ => rfl⟩, hc.lt⟩
end Go.Proofs.YthobpbnaklnbiaaGreat
