/-
  Contract of the program's copyAll at records. A region that draws its order, taken in the order of its numbers: that this may be is asked once a region. What only hands flags on, or is not wanted, is done in one step.
-/
import Derived.Test.YtpolekinfobecaaGreatCacheTickG28
import Derived.Test.YtpolekinfobecaaGreatCacheTickG06
import Derived.Test.YtpolekinfobecaaGreatCacheTickG12
import Derived.Test.YtpolekinfobecaaGreatCacheTickG23
namespace Go.Proofs.YtpolekinfobecaaGreat
open Go.RowKit
set_option linter.unusedVariables false

theorem info_rrA : (Tryz.prog.info? 56).map (fun i => (i.zero, i.size, i.bytes)) = some (some (.agg #[.slice none 0 0, .int .i64 0, .int .i64 0, .int .i64 0, .slice none 0 0, .slice none 0 0, .slice none 0 0]), 7, 120) := by kernel_rfl
set_option maxHeartbeats 4000000 in
set_option maxRecDepth 100000 in
theorem copyAllR_own {v : Value} {l : List Rec} {w : World} (h : HasRs w v l) (h12 : l.length ≤ 1000) (hoks : ∀ i, i < l.length → ShortR (l.getD i recZ)) :
  Calls Tryz.prog 57 #[v, .func (Fn.func 58) #[] #[]] w fun e w' => ∃ x, e = .returned x ∧ RowO w.heap.size w'.heap.size 56 53 5 3 w' x l ∧ Below w.heap.size w w' := by
 obtain ⟨a, cap, rfl, _⟩ := h.form
 have HL := hide h
 have HOK := hide hoks
 have hT0 : l.take l.length = l := List.take_length
 clear h hoks
 generalize hm : l.length = m at *
 have HN := hide hm
 have HT := hide hT0
 clear hm hT0
 go_enter Tryz.func57, Tryz.ntmps57
 go_wp2_with fail
 go_loopw [5, 10] (fun v i wr => ∃ k : Nat, k ≤ m ∧ i = .int .i64 k ∧ RowO w.heap.size wr.heap.size 56 53 5 3 wr v (l.take k) ∧ Below w.heap.size w wr) (fun _ i _ => m - (intOf i).toNat)
 case atStart => exact ⟨0, Nat.zero_le _, rfl, by simpa using RowO.nil _ _ _ _ _ _ _, Below.refl _ _⟩
 case round =>
  obtain ⟨k, hk, rfl, hrow, hbw⟩ := hrel
  by_cases hlt : k < m
  ·have hkm : (k : Int) < m := by omega
   obtain ⟨g, off, rna, rnc, rta, rtc, rxa, rxc, ria, ric, rfl, hbl, hc, hu⟩ := ((unhide HL).below hbw).here (k := k) (by rw [unhide HN]; exact hlt)
   have hsh := unhide HOK k hlt
   have HST2 := hide (show l.take (k + 1) = l.take k ++ [l.getD k recZ] by rw [List.take_succ_eq_append_getElem (by rw [unhide HN]; exact hlt)]; simp [show k < l.length by rw [unhide HN]; exact hlt])
   have hlen : (l.take k).length ≤ k := by rw [List.length_take]; omega
   generalize l.getD k recZ = r at *
   generalize l.take k = lk at *
   obtain ⟨va, vc, rfl, _⟩ := hrow.form
   have ba := below_alloc (w := wr) (.cells #[.slice rna r.name.length rnc, .int .i64 r.type, .int .i64 r.ttl, .int .i64 r.addr, .slice rta r.to.length rtc, .slice rxa r.text.length rxc, .slice ria r.nums.length ric] 56)
   have kx := heap_alloc_new wr (.cells #[.slice rna r.name.length rnc, .int .i64 r.type, .int .i64 r.ttl, .int .i64 r.addr, .slice rta r.to.length rtc, .slice rxa r.text.length rxc, .slice ria r.nums.length ric] 56)
   have R2 := hide ((hrow.below ba).wide (Nat.le_refl _) ba.size)
   have HC := hide (copyRr_own (hu.below ba) hsh)
   have bb2 := below_next hbw ba
   obtain ⟨c0, c1, c2, c3, c4, c5, c6⟩ := range7 hc
   obtain ⟨x0, x1, x2, x3, x4, x5, x6⟩ := cells7 kx
   have z1 := hbw.size
   have z2 := ba.size
   clear hrow hu hc ba kx hbw hsh
   go_wp2_with fail
   clear c0 c1 c2 c3 c4 c5 c6 x0 x1 x2 x3 x4 x5 x6
   generalize wr.alloc (.cells #[.slice rna r.name.length rnc, .int .i64 r.type, .int .i64 r.ttl, .int .i64 r.addr, .slice rta r.to.length rtc, .slice rxa r.text.length rxc, .slice ria r.nums.length ric] 56) = w2 at *
   refine (unhide HC).mono ?_
   rintro e w3 ⟨un, ut, ux, ui, rfl, oR, b3⟩
   obtain ⟨una, unc, rfl, _⟩ := oR.hasR.name.form
   obtain ⟨uta, utc, rfl, _⟩ := oR.hasR.to.form
   obtain ⟨uxa, uxc, rfl, _⟩ := oR.hasR.text.form
   obtain ⟨uia, uic, rfl, _⟩ := oR.hasR.nums.form
   have b4 := below_alloc (w := w3) (.cells #[.slice una r.name.length unc, .int .i64 r.type, .int .i64 r.ttl, .int .i64 r.addr, .slice uta r.to.length utc, .slice uxa r.text.length uxc, .slice uia r.nums.length uic] 56)
   have g4 := heap_alloc_new w3 (.cells #[.slice una r.name.length unc, .int .i64 r.type, .int .i64 r.ttl, .int .i64 r.addr, .slice uta r.to.length utc, .slice uxa r.text.length uxc, .slice uia r.nums.length uic] 56)
   have row4 := ((unhide R2).below b3).below b4
   have OR4 := hide (oR.below b4)
   have bb4 := below_next (below_next bb2 b3) b4
   have z4 := b3.size
   have z5 := b4.size
   have ROW4 := hide row4
   obtain ⟨xs0, f0, g0, hx0, hq0, hh0⟩ := row4
   have zB := bb4.size
   clear oR b3 b4 HC R2 bb2 hq0 hh0
   go_wp2_with (at_builtin; refine append_rec' rfl _ _ 45 56 rfl Tryz.underlying45 _ info_rrA rfl w.heap.size (.slice va lk.length vc) lk.length rfl w3.heap.size [.slice una r.name.length unc, .int .i64 r.type, .int .i64 r.ttl, .int .i64 r.addr, .slice uta r.to.length utc, .slice uxa r.text.length uxc, .slice uia r.nums.length uic] rfl ⟨xs0, hx0⟩ g4 rfl (by simp [Value.oneCell']) (by omega) (by simp; omega) ?_)
   intro v5 w5 h5 g5 hw5
   have row5 := RowO.snoc (unhide ROW4) (C := w2.heap.size) (D := w3.heap.size) (by omega) z5 (unhide OR4) (by omega) g5 (by rw [World.size_alloc]; exact hw5) h5
   rw [← unhide HST2] at row5
   have bb5 := bb4.grown g5 bb4.size (fun j e => (World.ownsRow.lt hx0 j e).1)
   clear hx0 h5 g5 hw5 OR4 ROW4 g4 bb4
   go_wp2
   exact ⟨⟨k + 1, by omega, by go_num, row5, bb5⟩, by simp [intOf]; omega⟩
  ·obtain rfl : k = m := by omega
   have hT := unhide HT
   rw [hT] at hrow
   clear hT
   go_wp2
   go_ret
   exact ⟨_, rfl, hrow, hbw⟩
end Go.Proofs.YtpolekinfobecaaGreat

namespace Go.Proofs.YtpolekinfobecaaGreat
open Go.RowKit
set_option linter.unusedVariables false

def flagF : Value → Option Bool
 | .bool b => some b
 | _ => none
theorem flagF_is {v : Value} {b : Bool} (h : flagF v = some b) : v = .bool b := by
 unfold flagF at h
 split at h
 ·simp only [Option.some.injEq] at h; subst h; rfl
 ·cases h
def valF : Option Bool → Value
 | some b => .bool b
 | none => undef
def eqF : Option Bool → Option Bool → Bool
 | some true, some true => true
 | some false, some false => true
 | _, _ => false
theorem eqF_is {x y : Option Bool} (h : eqF x y = true) : x = y ∧ y ≠ none := by
 rcases x with _ | _ | _ <;> rcases y with _ | _ | _ <;> simp_all [eqF]
/-- A temporary's flag: what was put last, else what stood there. -/
def lookF (tm : Array Value) : List (Nat × Option Bool) → Nat → Option Bool
 | [], d => match tm[d]? with | some v => flagF v | none => none
 | (e, b) :: m, d => if Nat.beq e d then b else lookF tm m d
def FlagsF (tm : Array Value) (m : List (Nat × Option Bool)) (tm' : Array Value) : Prop := tm'.size = tm.size ∧ ∀ d, lookF tm m d = match tm'[d]? with | some v => flagF v | none => none
theorem FlagsF.nil (tm : Array Value) : FlagsF tm [] tm := ⟨rfl, fun d => rfl⟩
theorem flagF_val (b : Option Bool) : flagF (valF b) = b := by rcases b with _ | b <;> rfl
theorem FlagsF.cons {tm tm' : Array Value} {m : List (Nat × Option Bool)} (h : FlagsF tm m tm') {d : Nat} (hd : d < tm.size) (b : Option Bool) :
  FlagsF tm ((d, b) :: m) (tm'.setIfInBounds d (valF b)) := by
 refine ⟨by rw [Array.size_setIfInBounds]; exact h.1, fun e => ?_⟩
 simp only [lookF]
 by_cases q : d = e
 ·subst q
  rw [if_pos (Nat.beq_refl d), Array.getElem?_setIfInBounds_self_of_lt (by rw [h.1]; exact hd)]
  exact (flagF_val b).symm
 ·rw [if_neg (by rw [Nat.beq_eq]; exact q), Array.getElem?_setIfInBounds_ne q]
  exact h.2 e
def opF (tm : Array Value) (m : List (Nat × Option Bool)) : Operand → Option Bool
 | .tmp t => lookF tm m t
 | .const (.bool b) => some b
 | _ => none
theorem opF_is {tm tm' : Array Value} {m : List (Nat × Option Bool)} {ds : List Deferred} (h : FlagsF tm m tm') {x : Operand} {b : Bool} (hb : opF tm m x = some b) : (Act.mk tm' ds).eval x = .bool b := by
 unfold opF at hb
 split at hb
 ·rename_i t
  rw [h.2 t] at hb
  simp only [Act.eval, Array.getD_eq_getD_getElem?]
  split at hb
  ·rename_i v hv
   rw [hv]
   exact flagF_is hb
  ·cases hb
 ·simp only [Option.some.injEq] at hb; subst hb; rfl
 ·cases hb
def handsF (tm : Array Value) (m : List (Nat × Option Bool)) (o : Oper) : Option Bool :=
 match o.op with
 | .move x => opF tm m x
 | .pick c x y => match opF tm m c with
  | some true => opF tm m x
  | some false => opF tm m y
  | none => none
 | _ => none
def wantF (ops : Array Oper) (tm : Array Value) (m : List (Nat × Option Bool)) (o : Oper) : Bool :=
 match o.guard with
 | none => true
 | some (j, want) => match (ops[j]?).bind (·.dst) with
  | some d => eqF (lookF tm m d) (some want)
  | none => false
theorem wantF_is {ops : Array Oper} {tm tm' : Array Value} {m : List (Nat × Option Bool)} (h : FlagsF tm m tm') (o : Oper) : Region.wanted o (yielded ops tm') = wantF ops tm m o := by
 unfold Region.wanted wantF
 rcases hg : o.guard with _ | ⟨j, want⟩
 ·rfl
 ·simp only
  unfold yielded
  cases hd : (ops[j]?).bind (·.dst) with
  | none => rfl
  | some d =>
   simp only [Option.bind_some]
   rw [h.2 d]
   cases hv : tm'[d]? with
   | none => rfl
   | some v =>
    simp only
    cases v with
    | bool b => cases b <;> cases want <;> rfl
    | _ => rfl
def callsA : Op → Bool
 | .call c => match c.callee with | .builtin _ => false | _ => true
 | _ => false
/-- The first i of n are listed. -/
def upA (i n : Nat) : Array Bool := ((List.range n).map (fun j => decide (j < i))).toArray
theorem upA_get {i n j : Nat} {d : Bool} (hj : j < n) : (upA i n).getD j d = decide (j < i) := by
 unfold upA
 simp [Array.getD_eq_getD_getElem?, hj]
theorem upA_out {i n j : Nat} {d : Bool} (hj : n ≤ j) : (upA i n).getD j d = d := by
 unfold upA
 simp [Array.getD_eq_getD_getElem?, hj]
theorem upA_set {i n : Nat} (hi : i < n) : (upA i n).setIfInBounds i true = upA (i + 1) n := by
 unfold upA
 rw [List.setIfInBounds_toArray]
 congr 1
 refine List.ext_getElem (by simp) (fun j h1 h2 => ?_)
 simp only [List.length_set, List.length_map, List.length_range] at h1
 simp only [List.getElem_set, List.getElem_map, List.getElem_range]
 split
 ·subst_vars; simp
 ·rename_i h
  rw [Bool.eq_iff_iff, decide_eq_true_eq, decide_eq_true_eq]
  omega
theorem upA_zero (n : Nat) : Array.replicate n false = upA 0 n := by
 unfold upA
 rw [← List.toArray_replicate]
 congr 1
 refine List.ext_getElem (by simp) (fun j h1 h2 => ?_)
 simp
def ascL (md : Region.Mode) (ops : Array Oper) : Nat → List Oper → Bool
 | _, [] => true
 | i, oi :: rest => oi.after.all (fun e => !Region.binds md e || Nat.blt e.on i) && (rest.all (fun oj => oj.after.any (fun e => Region.binds md e && Nat.beq e.on i) || oi.apart ops oj) && ascL md ops (i + 1) rest)
def soleL (md : Region.Mode) (i : Nat) (l : List Oper) : Bool := l.all (fun oj => oj.after.any (fun e => Region.binds md e && Nat.ble i e.on))
/-- The order of the numbers is one that may be. -/
structure AscA (md : Region.Mode) (ops : Array Oper) : Prop where
 sel : Region.noSelect ops = true
 asc : ascL md ops 0 ops.toList = true
theorem ascL_drop {md : Region.Mode} {ops : Array Oper} : ∀ (l : List Oper) (k i : Nat), ascL md ops k l = true → ascL md ops (k + i) (l.drop i) = true
 | l, k, 0, h => h
 | [], k, i + 1, h => rfl
 | o :: l, k, i + 1, h => by
  unfold ascL at h
  simp only [Bool.and_eq_true] at h
  have := ascL_drop l (k + 1) i h.2.2
  rwa [Nat.add_assoc, Nat.add_comm 1 i] at this
section
variable {P : Program} {ops : Array Oper} {Q : Exit → Act → World → Prop} {md : Region.Mode} {S : World → Prop}
theorem size_of_drop {i : Nat} {oi : Oper} {rest : List Oper} (hi : ops.toList.drop i = oi :: rest) : i < ops.size := by
 have := congrArg List.length hi
 simp only [List.length_drop, List.length_cons, Array.length_toList] at this
 omega
theorem AscA.at_ (h : AscA md ops) {i : Nat} {oi : Oper} {rest : List Oper} (hi : ops.toList.drop i = oi :: rest) :
  (∀ e ∈ oi.after, Region.binds md e = true → e.on < i) ∧ ∀ (j : Nat) (oj : Oper), i < j → ops[j]? = some oj → (∃ e ∈ oj.after, Region.binds md e = true ∧ e.on = i) ∨ oi.apart ops oj = true := by
 have h2 := ascL_drop ops.toList 0 i h.asc
 rw [hi, Nat.zero_add] at h2
 unfold ascL at h2
 simp only [Bool.and_eq_true, Array.all_eq_true', Bool.or_eq_true, Bool.not_eq_true', List.all_eq_true] at h2
 refine ⟨fun e he hb => ?_, fun j oj hij hj => ?_⟩
 ·rcases h2.1 e he with q | q
  ·rw [hb] at q; cases q
  ·simpa [Nat.blt_eq] using q
 ·have hm : oj ∈ rest := by
   have e1 : ops.toList[j]? = some oj := by rw [Array.getElem?_toList]; exact hj
   obtain ⟨k, rfl⟩ : ∃ k, j = i + 1 + k := ⟨j - (i + 1), by omega⟩
   have e2 : (ops.toList.drop i)[k + 1]? = some oj := by rw [List.getElem?_drop, show i + (k + 1) = i + 1 + k by omega]; exact e1
   rw [hi, List.getElem?_cons_succ] at e2
   exact List.mem_of_getElem? e2
  rcases h2.2.1 oj hm with q | q
  ·obtain ⟨e, he, hb⟩ := Array.any_eq_true'.1 q
   simp only [Bool.and_eq_true] at hb
   exact .inl ⟨e, he, hb.1, Nat.eq_of_beq_eq_true hb.2⟩
  ·exact .inr q
theorem AscA.free (h : AscA md ops) {i : Nat} {oi : Oper} {rest : List Oper} (hi : ops.toList.drop i = oi :: rest) : Region.free md ops (upA i ops.size) i = true := by
 unfold Region.free
 rw [ops_drop hi]
 simp only [List.all_eq_true, List.mem_range, Bool.or_eq_true]
 intro j hj
 by_cases q : j ≤ i
 ·by_cases e : j = i
  ·exact .inl (.inl (by simpa using e))
  ·refine .inl (.inr ?_)
   rw [upA_get hj]
   exact decide_eq_true (by omega)
 ·obtain ⟨oj, hoj⟩ : ∃ oj, ops[j]? = some oj := ⟨ops[j], by simp [hj]⟩
  rw [hoj]
  simp only [Bool.or_eq_true]
  refine .inr ?_
  rcases (h.at_ hi).2 j oj (by omega) hoj with ⟨e, he, hb, hon⟩ | q
  ·exact .inl (Array.any_eq_true'.2 ⟨e, he, by rw [hb, hon]; simp⟩)
  ·exact .inr q
theorem AscA.ready_at (h : AscA md ops) {i : Nat} {oi : Oper} {rest : List Oper} (hi : ops.toList.drop i = oi :: rest) {j : Nat} : j ∈ Region.ready md ops (upA i ops.size) ↔
  j < ops.size ∧ i ≤ j ∧ ∀ oj, ops[j]? = some oj → ∀ e ∈ oj.after, Region.binds md e = true → e.on < i := by
 have hin := size_of_drop hi
 unfold Region.ready
 simp only [List.mem_filter, List.mem_range, Bool.and_eq_true, Bool.not_eq_true']
 constructor
 ·rintro ⟨hj, h1, h2⟩
  rw [upA_get hj] at h1
  refine ⟨hj, by simpa using h1, fun oj hoj e he hb => ?_⟩
  rw [hoj] at h2
  simp only [Option.map_some, Option.getD_some, Array.all_eq_true', Bool.or_eq_true, Bool.not_eq_true'] at h2
  rcases h2 e he with q | q
  ·rw [hb] at q; cases q
  ·by_cases hs : e.on < ops.size
   ·rw [upA_get hs] at q
    exact of_decide_eq_true q
   ·rw [upA_out (by omega)] at q
    cases q
 ·rintro ⟨hj, h1, h2⟩
  refine ⟨hj, by rw [upA_get hj]; exact decide_eq_false (by omega), ?_⟩
  have hoj : ops[j]? = some ops[j] := by simp [hj]
  rw [hoj]
  simp only [Option.map_some, Option.getD_some, Array.all_eq_true', Bool.or_eq_true, Bool.not_eq_true']
  intro e he
  by_cases hb : Region.binds md e = true
  ·refine .inr ?_
   have := h2 _ hoj e he hb
   rw [upA_get (by omega)]
   exact decide_eq_true this
  ·exact .inl (by simpa using hb)
theorem AscA.ready (h : AscA md ops) {i : Nat} {oi : Oper} {rest : List Oper} (hi : ops.toList.drop i = oi :: rest) : (Region.ready md ops (upA i ops.size)).contains i = true := by
 rw [List.contains_iff_mem]
 exact (h.ready_at hi).2 ⟨size_of_drop hi, Nat.le_refl _, fun oj hoj => by rw [ops_drop hi] at hoj; cases hoj; exact (h.at_ hi).1⟩
theorem filter_one {p : Nat → Bool} {n i : Nat} (hi : i < n) (hp : p i = true) (hn : ∀ j, j < n → j ≠ i → p j = false) : (List.range n).filter p = [i] := by
 induction n with
 | zero => omega
 | succ n ih =>
  rw [List.range_succ, List.filter_append]
  by_cases e : i = n
  ·subst e
   rw [List.filter_eq_nil_iff.2 (fun j hj => by rw [hn j (by have := List.mem_range.1 hj; omega) (by have := List.mem_range.1 hj; omega)]; simp)]
   simp [hp]
  ·rw [ih (by omega) (fun j hj hne => hn j (by omega) hne)]
   simp [hn n (by omega) (by omega)]
theorem AscA.sole (h : AscA md ops) {i : Nat} {oi : Oper} {rest : List Oper} (hi : ops.toList.drop i = oi :: rest) (hs : soleL md i rest = true) : Region.ready md ops (upA i ops.size) = [i] := by
 have hin := size_of_drop hi
 have hm := h.ready hi
 rw [List.contains_iff_mem] at hm
 have hnot : ∀ j, j ≠ i → j ∉ Region.ready md ops (upA i ops.size) := fun j hne hj => by
  obtain ⟨hj1, hj2, hj3⟩ := (h.ready_at hi).1 hj
  have hoj : ops[j]? = some ops[j] := by simp [hj1]
  have hmem : ops[j] ∈ rest := by
   obtain ⟨k, rfl⟩ : ∃ k, j = i + 1 + k := ⟨j - (i + 1), by omega⟩
   have e2 : (ops.toList.drop i)[k + 1]? = some ops[i + 1 + k] := by rw [List.getElem?_drop, show i + (k + 1) = i + 1 + k by omega, Array.getElem?_toList]; exact hoj
   rw [hi, List.getElem?_cons_succ] at e2
   exact List.mem_of_getElem? e2
  unfold soleL at hs
  rw [List.all_eq_true] at hs
  obtain ⟨e, he, hb⟩ := Array.any_eq_true'.1 (hs _ hmem)
  simp only [Bool.and_eq_true] at hb
  have := hj3 _ hoj e he hb.1
  have := Nat.le_of_ble_eq_true hb.2
  omega
 have hx : ∀ j, j ∈ Region.ready md ops (upA i ops.size) → j = i := fun j hj => Classical.byContradiction (fun q => hnot j q hj)
 unfold Region.ready at hm hx ⊢
 refine filter_one hin (List.mem_filter.1 hm).2 (fun j hj hne => ?_)
 rw [Bool.eq_false_iff]
 intro q
 exact hne (hx j (List.mem_filter.2 ⟨List.mem_range.2 hj, q⟩))
/-- The first i have come up. -/
def wpA (P : Program) (md : Region.Mode) (ops : Array Oper) (Q : Exit → Act → World → Prop) (S : World → Prop) (i : Nat) (a : Act) (w : World) : Prop := wpAnyH P md ops Q S (ops.size - i) (upA i ops.size) a w
theorem startA {id : Nat} {a : Act} {w : World} (hm : P.follows .mixedOrders = true) (hA : AscA .any ops) (S : World → Prop) (hS : S w.drew)
  (h : AscA .any ops → S w.drew → wpA P .any ops Q S 0 a w.drew) : (Code.region id ops true).wp P Q a w := by
 refine wp_region_held_drew (S := S) hm hS (fun hH => ?_)
 have := h hA hH
 unfold wpA at this
 rwa [Nat.sub_zero, ← upA_zero] at this
theorem takeA (v : Value) {i : Nat} {oi : Oper} {rest : List Oper} {a : Act} {w : World} (hA : AscA md ops) (hi : ops.toList.drop i = oi :: rest) (hc : callsA oi.op = false)
  (hb : Region.wanted oi (yielded ops a.tmps) = true) (hQ : ∀ c a w, Q (.panic c) (a.put oi.dst v) w → Q (.panic c) a w)
  (hy : ∀ w, S w → (execOp a.eval oi).run P w = .ok (.value v) w) (hS : S w) (h : wpA P md ops Q S (i + 1) (a.put oi.dst v) w) : wpA P md ops Q S i a w := by
 have hin := size_of_drop hi
 unfold wpA at *
 obtain ⟨f, hf⟩ : ∃ f, ops.size - i = f + 1 := ⟨ops.size - (i + 1), by omega⟩
 rw [show ops.size - (i + 1) = f by omega, ← upA_set hin] at h
 rw [hf]
 exact wpAnyH_take (ops_drop hi) hA.sel (hA.free hi) (hA.ready hi) hQ (Or.inl ⟨hb, hy⟩) hS h
theorem skipA {i : Nat} {oi : Oper} {rest : List Oper} {a : Act} {w : World} (hA : AscA md ops) (hi : ops.toList.drop i = oi :: rest)
  (hb : Region.wanted oi (yielded ops a.tmps) = false) (hQ : ∀ c a w, Q (.panic c) (a.put oi.dst undef) w → Q (.panic c) a w) (hS : S w)
  (h : wpA P md ops Q S (i + 1) (a.put oi.dst undef) w) : wpA P md ops Q S i a w := by
 have hin := size_of_drop hi
 unfold wpA at *
 obtain ⟨f, hf⟩ : ∃ f, ops.size - i = f + 1 := ⟨ops.size - (i + 1), by omega⟩
 rw [show ops.size - (i + 1) = f by omega, ← upA_set hin] at h
 rw [hf]
 exact wpAnyH_take (ops_drop hi) hA.sel (hA.free hi) (hA.ready hi) hQ (Or.inr ⟨hb, rfl⟩) hS h
theorem runA {i : Nat} {oi : Oper} {rest : List Oper} {a : Act} {w : World} (hA : AscA md ops) (hi : ops.toList.drop i = oi :: rest) (hs : soleL md i rest = true)
  (hb : Region.wanted oi (yielded ops a.tmps) = true)
  (h : ∀ K' : Act → World → Prop, Shut (∀ a w, S w → (S w → wpA P md ops Q S (i + 1) a w) → K' a w) → Oper.wp P oi a w K' Q) : wpA P md ops Q S i a w := by
 have hin := size_of_drop hi
 unfold wpA at *
 obtain ⟨f, hf⟩ : ∃ f, ops.size - i = f + 1 := ⟨ops.size - (i + 1), by omega⟩
 rw [show ops.size - (i + 1) = f by omega, ← upA_set hin] at h
 rw [hf]
 refine wpAnyH_ready (hA.sole hi hs) (by simp) (AllReadyH.cons (ops_drop hi) (fun K hK => ?_) AllReadyH.nil)
 rw [if_pos hb]
 exact h K hK
theorem doneA {i : Nat} {a : Act} {w : World} (hn : ops.toList.drop i = []) (h : Q .normal a w) : wpA P md ops Q S i a w := by
 have hl : ops.size ≤ i := by
  have := congrArg List.length hn
  simp only [List.length_drop, List.length_nil, Array.length_toList] at this
  omega
 unfold wpA
 refine wpAnyH_done ?_ h _
 unfold Region.ready
 rw [List.filter_eq_nil_iff]
 intro j hj
 rw [upA_get (List.mem_range.1 hj), decide_eq_true (by have := List.mem_range.1 hj; omega)]
 simp
theorem hands_run {tm tm' : Array Value} {m : List (Nat × Option Bool)} {ds : List Deferred} (hm : FlagsF tm m tm') {o : Oper} {b : Bool} (h : handsF tm m o = some b) (w : World) :
  (execOp (Act.mk tm' ds).eval o).run P w = .ok (.value (.bool b)) w := by
 unfold handsF at h
 split at h
 ·rename_i x hx
  unfold execOp
  simp only [hx, Sem.run_pure, opF_is hm h]
 ·rename_i c x y hx
  unfold execOp
  simp only [hx]
  split at h
  ·rename_i hc
   simp only [opF_is hm hc, opF_is hm h, asBool, Sem.run_bind, Sem.run_pure, Result.andThen_ok, if_true]
  ·rename_i hc
   simp [opF_is hm hc, opF_is hm h, asBool, Sem.run_pure]
  ·cases h
 ·cases h
/-- What is put, one behind the other. -/
def putsF : List (Nat × Option Bool) → Array Value → Array Value
 | [], t => t
 | (d, b) :: ps, t => putsF ps (t.setIfInBounds d (valF b))
def leafA (ops : Array Oper) (tm : Array Value) (n : Nat) : List (Nat × Option Bool) → List Oper → List (Nat × Option Bool) → Bool
 | [], l, _ => l.isEmpty
 | (d, b) :: ps, oi :: l, m => (match oi.dst with | some e => Nat.beq e d | none => false) && (Nat.blt d n &&
    ((match b with | none => !wantF ops tm m oi | some _ => !callsA oi.op && (wantF ops tm m oi && eqF (handsF tm m oi) b))
    && leafA ops tm n ps l ((d, b) :: m)))
 | _ :: _, [], _ => false
theorem leaf_go (hA : AscA md ops) (hQ : ∀ d v c a w, Q (.panic c) (Act.put a (some d) v) w → Q (.panic c) a w) {w : World} (hS : S w) {tm : Array Value} {ds : List Deferred} :
  ∀ (ps : List (Nat × Option Bool)) (i : Nat) (m : List (Nat × Option Bool)) (tm' : Array Value), FlagsF tm m tm' → leafA ops tm tm.size ps (ops.toList.drop i) m = true →
   Q .normal ⟨putsF ps tm', ds⟩ w → wpA P md ops Q S i ⟨tm', ds⟩ w
 | [], i, m, tm', hm, h, hq => by
  simp only [leafA, List.isEmpty_iff] at h
  exact doneA h hq
 | (d, b) :: ps, i, m, tm', hm, h, hq => by
  cases hi : ops.toList.drop i with
  | nil => rw [hi] at h; simp [leafA] at h
  | cons oi rest =>
   rw [hi] at h
   have hr : ops.toList.drop (i + 1) = rest := by rw [← List.drop_drop, hi]; rfl
   simp only [leafA, Bool.and_eq_true] at h
   obtain ⟨h1, h0, h4, h5⟩ := h
   have hd : oi.dst = some d := by
    split at h1
    ·rename_i e he; rw [he, Nat.eq_of_beq_eq_true h1]
    ·cases h1
   have h0' : d < tm.size := by simpa [Nat.blt_eq] using h0
   rw [← hr] at h5
   cases b with
   | none =>
    refine skipA hA hi (by rw [wantF_is hm]; simpa using h4) (fun c a w => by rw [hd]; exact hQ _ _ c a w) hS ?_
    rw [hd]
    exact leaf_go hA hQ hS ps (i + 1) _ _ (hm.cons h0' none) h5 hq
   | some b =>
    simp only [Bool.and_eq_true, Bool.not_eq_true'] at h4
    refine takeA (.bool b) hA hi h4.1 (by rw [wantF_is hm]; exact h4.2.1) (fun c a w => by rw [hd]; exact hQ _ _ c a w) (fun w _ => hands_run hm (eqF_is h4.2.2).1 w) hS ?_
    rw [hd]
    exact leaf_go hA hQ hS ps (i + 1) _ _ (hm.cons h0' (some b)) h5 hq
theorem leaf_all (hA : AscA md ops) (hQ : ∀ d v c a w, Q (.panic c) (Act.put a (some d) v) w → Q (.panic c) a w) {w : World} (hS : S w) {tm : Array Value} {ds : List Deferred}
  (ps : List (Nat × Option Bool)) {i : Nat} (h : leafA ops tm tm.size ps (ops.toList.drop i) [] = true)
  (hq : Q .normal ⟨putsF ps tm, ds⟩ w) : wpA P md ops Q S i ⟨tm, ds⟩ w := leaf_go hA hQ hS ps i [] tm (FlagsF.nil tm) h hq
end
end Go.Proofs.YtpolekinfobecaaGreat
