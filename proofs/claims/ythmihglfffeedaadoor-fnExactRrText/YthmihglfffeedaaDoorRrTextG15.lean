/-
  A region that draws its order, taken in an order that is given: that this may be is asked once a region.
-/
import Derived.Test.YthmihglfffeedaaDoorRrTextG14
namespace Go.Proofs.YthmihglfffeedaaDoor
open Go.RowKit
set_option linter.unusedVariables false

def upO (ord : List Nat) (i n : Nat) : Array Bool := ((List.range n).map (fun j => (ord.take i).contains j)).toArray
theorem upO_get {ord : List Nat} {i n j : Nat} {d : Bool} (hj : j < n) : (upO ord i n).getD j d = (ord.take i).contains j := by
 unfold upO
 simp [Array.getD_eq_getD_getElem?, hj]
theorem upO_out {ord : List Nat} {i n j : Nat} {d : Bool} (hj : n ≤ j) : (upO ord i n).getD j d = d := by
 unfold upO
 simp [Array.getD_eq_getD_getElem?, hj]
theorem take_next {α : Type} {l rest : List α} {i : Nat} {k : α} (h : l.drop i = k :: rest) : l.take (i + 1) = l.take i ++ [k] := by
 have hi : i < l.length := by
  have := congrArg List.length h
  simp only [List.length_drop, List.length_cons] at this
  omega
 rw [List.take_succ_eq_append_getElem hi]
 have : l[i] = k := by
  have := congrArg (fun x => x[0]?) h
  simp only [List.getElem?_drop, Nat.add_zero, List.getElem?_cons_zero] at this
  rw [List.getElem?_eq_getElem hi] at this
  exact Option.some.inj this
 rw [this]
theorem upO_set {ord rest : List Nat} {i n k : Nat} (h : ord.drop i = k :: rest) (hk : k < n) : (upO ord i n).setIfInBounds k true = upO ord (i + 1) n := by
 unfold upO
 rw [List.setIfInBounds_toArray, take_next h]
 congr 1
 refine List.ext_getElem (by simp) (fun j h1 h2 => ?_)
 simp only [List.length_set, List.length_map, List.length_range] at h1
 simp only [List.getElem_set, List.getElem_map, List.getElem_range]
 split
 ·subst_vars; simp
 ·rename_i h
  rw [Bool.eq_iff_iff, List.contains_iff_mem, List.contains_iff_mem, List.mem_append]
  simp [Ne.symm h]
theorem upO_zero (ord : List Nat) (n : Nat) : Array.replicate n false = upO ord 0 n := by
 unfold upO
 rw [← List.toArray_replicate]
 congr 1
 refine List.ext_getElem (by simp) (fun j h1 h2 => ?_)
 simp
def memN (k : Nat) : List Nat → Bool
 | [] => false
 | j :: l => if Nat.beq j k then true else memN k l
theorem memN_iff {k : Nat} : ∀ {l : List Nat}, memN k l = true ↔ k ∈ l
 | [] => by simp [memN]
 | j :: l => by
  unfold memN
  by_cases h : j = k
  ·subst h; simp
  ·rw [if_neg (by rw [Nat.beq_eq]; exact h), memN_iff]
   simp [Ne.symm h]
def waitsO (md : Region.Mode) (k : Nat) (oj : Oper) : Bool := oj.after.any (fun e => Region.binds md e && Nat.beq e.on k)
def ascO (md : Region.Mode) (ops : Array Oper) : List Nat → List Nat → Bool
 | _, [] => true
 | done, k :: rest => match ops[k]? with
  | some ok => ok.after.all (fun e => !Region.binds md e || memN e.on done) && (!memN k done && (rest.all (fun j => match ops[j]? with | some oj => waitsO md k oj || ok.apart ops oj | none => false) && ascO md ops (k :: done) rest))
  | none => false
def soleO (md : Region.Mode) (ops : Array Oper) (done rest : List Nat) : Bool := rest.all (fun j => match ops[j]? with | some oj => oj.after.any (fun e => Region.binds md e && !memN e.on done) | none => false)
structure OrdO (md : Region.Mode) (ops : Array Oper) (ord : List Nat) : Prop where
 sel : Region.noSelect ops = true
 len : Nat.beq ord.length ops.size = true
 all : (List.range ops.size).all (fun j => memN j ord) = true
 asc : ascO md ops [] ord = true
theorem ascO_drop {md : Region.Mode} {ops : Array Oper} : ∀ (l done : List Nat) (i : Nat), ascO md ops done l = true → ascO md ops ((l.take i).reverse ++ done) (l.drop i) = true
 | l, done, 0, h => by simpa using h
 | [], done, i + 1, h => rfl
 | o :: l, done, i + 1, h => by
  unfold ascO at h
  split at h
  ·simp only [Bool.and_eq_true] at h
   have := ascO_drop l (o :: done) i h.2.2.2
   simpa using this
  ·cases h
section
variable {P : Program} {ops : Array Oper} {ord : List Nat} {Q : Exit → Act → World → Prop} {md : Region.Mode} {S : World → Prop}
theorem OrdO.at_ (h : OrdO md ops ord) {i k : Nat} {ok : Oper} {rest : List Nat} (hi : ord.drop i = k :: rest) (hk : ops[k]? = some ok) :
  (∀ e ∈ ok.after, Region.binds md e = true → e.on ∈ ord.take i) ∧ k ∉ ord.take i ∧ ∀ j ∈ rest, ∃ oj, ops[j]? = some oj ∧ ((∃ e ∈ oj.after, Region.binds md e = true ∧ e.on = k) ∨ ok.apart ops oj = true) := by
 have h2 := ascO_drop ord [] i h.asc
 rw [hi, List.append_nil] at h2
 unfold ascO at h2
 rw [hk] at h2
 simp only [Bool.and_eq_true, Array.all_eq_true', Bool.or_eq_true, Bool.not_eq_true', List.all_eq_true] at h2
 obtain ⟨q1, q2, q3, _⟩ := h2
 refine ⟨fun e he hb => ?_, fun hm => ?_, fun j hj => ?_⟩
 ·rcases q1 e he with q | q
  ·rw [hb] at q; cases q
  ·simpa using memN_iff.1 q
 ·have := (memN_iff (k := k) (l := (ord.take i).reverse)).2 (by simpa using hm)
  rw [this] at q2
  cases q2
 ·have := q3 j hj
  split at this
  ·rename_i oj hoj
   refine ⟨oj, hoj, ?_⟩
   rw [Bool.or_eq_true] at this
   rcases this with q | q
   ·obtain ⟨e, he, hb⟩ := Array.any_eq_true'.1 q
    simp only [Bool.and_eq_true] at hb
    exact .inl ⟨e, he, hb.1, Nat.eq_of_beq_eq_true hb.2⟩
   ·exact .inr q
  ·cases this
theorem OrdO.where_ (h : OrdO md ops ord) {i k : Nat} {rest : List Nat} (hi : ord.drop i = k :: rest) {j : Nat} (hj : j < ops.size) : j ∈ ord.take i ∨ j = k ∨ j ∈ rest := by
 have h1 := h.all
 rw [List.all_eq_true] at h1
 have h2 := memN_iff.1 (h1 j (List.mem_range.2 hj))
 rw [← List.take_append_drop i ord, hi, List.mem_append, List.mem_cons] at h2
 exact h2
theorem some_lt {k : Nat} {ok : Oper} (hk : ops[k]? = some ok) : k < ops.size := (Array.getElem?_eq_some_iff.1 hk).1
theorem OrdO.free (h : OrdO md ops ord) {i k : Nat} {ok : Oper} {rest : List Nat} (hi : ord.drop i = k :: rest) (hk : ops[k]? = some ok) : Region.free md ops (upO ord i ops.size) k = true := by
 unfold Region.free
 rw [hk]
 simp only [List.all_eq_true, List.mem_range, Bool.or_eq_true]
 intro j hj
 rcases h.where_ hi hj with q | q | q
 ·exact .inl (.inr (by rw [upO_get hj]; exact List.contains_iff_mem.2 q))
 ·exact .inl (.inl (by simpa using q))
 ·obtain ⟨oj, hoj, hd⟩ := (h.at_ hi hk).2.2 j q
  rw [hoj]
  refine .inr ?_
  simp only [Bool.or_eq_true]
  rcases hd with ⟨e, he, hb, hon⟩ | q
  ·exact .inl (Array.any_eq_true'.2 ⟨e, he, by rw [hb, hon]; simp⟩)
  ·exact .inr q
theorem ready_memO {i : Nat} {j : Nat} : j ∈ Region.ready md ops (upO ord i ops.size) ↔
  j < ops.size ∧ j ∉ ord.take i ∧ ∀ oj, ops[j]? = some oj → ∀ e ∈ oj.after, Region.binds md e = true → e.on ∈ ord.take i ∧ e.on < ops.size := by
 unfold Region.ready
 simp only [List.mem_filter, List.mem_range, Bool.and_eq_true, Bool.not_eq_true']
 constructor
 ·rintro ⟨hj, h1, h2⟩
  rw [upO_get hj] at h1
  refine ⟨hj, (fun q => by rw [List.contains_iff_mem.2 q] at h1; cases h1), fun oj hoj e he hb => ?_⟩
  rw [hoj] at h2
  simp only [Option.map_some, Option.getD_some, Array.all_eq_true', Bool.or_eq_true, Bool.not_eq_true'] at h2
  rcases h2 e he with q | q
  ·rw [hb] at q; cases q
  ·by_cases hs : e.on < ops.size
   ·rw [upO_get hs] at q
    exact ⟨List.contains_iff_mem.1 q, hs⟩
   ·rw [upO_out (by omega)] at q
    cases q
 ·rintro ⟨hj, h1, h2⟩
  refine ⟨hj, by rw [upO_get hj, Bool.eq_false_iff]; exact fun q => h1 (List.contains_iff_mem.1 q), ?_⟩
  have hoj : ops[j]? = some ops[j] := by simp [hj]
  rw [hoj]
  simp only [Option.map_some, Option.getD_some, Array.all_eq_true', Bool.or_eq_true, Bool.not_eq_true']
  intro e he
  by_cases hb : Region.binds md e = true
  ·obtain ⟨q1, q2⟩ := h2 _ hoj e he hb
   exact .inr (by rw [upO_get q2]; exact List.contains_iff_mem.2 q1)
  ·exact .inl (by simpa using hb)
theorem OrdO.in_size (h : OrdO md ops ord) {i : Nat} : ∀ k ∈ ord.take i, k < ops.size := by
 induction i with
 | zero => intro k hk; simp at hk
 | succ i ih =>
  intro k hk
  cases hd : ord.drop i with
  | nil =>
   have : ord.take (i + 1) = ord.take i := by
    have hl := congrArg List.length hd
    simp only [List.length_drop, List.length_nil] at hl
    rw [List.take_of_length_le (by omega), List.take_of_length_le (by omega)]
   rw [this] at hk
   exact ih k hk
  | cons k' rest =>
   rw [take_next hd, List.mem_append] at hk
   rcases hk with hk | hk
   ·exact ih k hk
   ·simp only [List.mem_cons, List.not_mem_nil, or_false] at hk
    subst hk
    have h2 := ascO_drop ord [] i h.asc
    rw [hd] at h2
    unfold ascO at h2
    split at h2
    ·rename_i ok hok; exact some_lt hok
    ·cases h2
theorem OrdO.ready (h : OrdO md ops ord) {i k : Nat} {ok : Oper} {rest : List Nat} (hi : ord.drop i = k :: rest) (hk : ops[k]? = some ok) : (Region.ready md ops (upO ord i ops.size)).contains k = true := by
 rw [List.contains_iff_mem]
 obtain ⟨q1, q2, _⟩ := h.at_ hi hk
 exact ready_memO.2 ⟨some_lt hk, q2, fun oj hoj e he hb => by rw [hk] at hoj; cases hoj; exact ⟨q1 e he hb, h.in_size _ (q1 e he hb)⟩⟩
theorem OrdO.sole (h : OrdO md ops ord) {i k : Nat} {ok : Oper} {rest : List Nat} (hi : ord.drop i = k :: rest) (hk : ops[k]? = some ok) (hs : soleO md ops (ord.take i) rest = true) : Region.ready md ops (upO ord i ops.size) = [k] := by
 have hm := h.ready hi hk
 rw [List.contains_iff_mem] at hm
 have hx : ∀ j, j ∈ Region.ready md ops (upO ord i ops.size) → j = k := fun j hj => Classical.byContradiction (fun hne => by
  obtain ⟨hj1, hj2, hj3⟩ := ready_memO.1 hj
  rcases h.where_ hi hj1 with q | q | q
  ·exact hj2 q
  ·exact hne q
  ·unfold soleO at hs
   rw [List.all_eq_true] at hs
   have h1 := hs j q
   split at h1
   ·rename_i oj hoj
    obtain ⟨e, he, hb⟩ := Array.any_eq_true'.1 h1
    simp only [Bool.and_eq_true, Bool.not_eq_true'] at hb
    have := memN_iff.2 (hj3 oj hoj e he hb.1).1
    rw [this] at hb
    cases hb.2
   ·cases h1)
 unfold Region.ready at hm hx ⊢
 refine filter_one (some_lt hk) (List.mem_filter.1 hm).2 (fun j hj hne => ?_)
 rw [Bool.eq_false_iff]
 intro q
 exact hne (hx j (List.mem_filter.2 ⟨List.mem_range.2 hj, q⟩))
theorem OrdO.lt (h : OrdO md ops ord) {i k : Nat} {rest : List Nat} (hi : ord.drop i = k :: rest) : i < ops.size := by
 have h1 := Nat.eq_of_beq_eq_true h.len
 have := congrArg List.length hi
 simp only [List.length_drop, List.length_cons] at this
 omega
end
end Go.Proofs.YthmihglfffeedaaDoor
