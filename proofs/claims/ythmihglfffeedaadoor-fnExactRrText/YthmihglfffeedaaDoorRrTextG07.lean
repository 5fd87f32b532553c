/-
  Plain facts: how long digits are; hex digits; which texts are bytes. No program is named here. Contracts of the program's kindOf and TypeOk, and of the specification's TypeOk. Plain facts: which records may be. No program is named here. Plain facts: a record's data as bytes. No program is named here. A record's text in plain words. No program is named here. Contracts of the program's copyBytes: new memory with the same bytes. Contracts of the program's upTo. Contracts of the program's Put32.
-/
import Derived.Test.YthmihglfffeedaaDoorRrTextG06
import Derived.Test.YthmihglfffeedaaDoorRrTextG03
namespace Go.Proofs.YthmihglfffeedaaDoor
open Go.RowKit
set_option linter.unusedVariables false

theorem digs_len (k : Nat) : ∀ x : Int, 0 ≤ x → x < 10 ^ (k + 1) → 1 ≤ (digs x).length ∧ (digs x).length ≤ k + 1 := by
 induction k with
 | zero =>
  intro x h0 h1
  rw [digs_lt x h0 (by omega)]
  simp
 | succ k ih =>
  intro x h0 h1
  by_cases h : x < 10
  ·rw [digs_lt x h0 h]; simp
  ·have e : (10 : Int) ^ (k + 1 + 1) = 10 ^ (k + 1) * 10 := Int.pow_succ _ _
   rw [e] at h1
   generalize (10 : Int) ^ (k + 1) = p at *
   have := ih (x / 10) (by omega) (by omega)
   rw [digs_ge x (by omega)]
   simp only [List.length_append, List.length_cons, List.length_nil]
   omega
theorem digs_ten {x : Int} (h0 : 0 ≤ x) (h1 : x ≤ 4294967295) : 1 ≤ (digs x).length ∧ (digs x).length ≤ 10 := digs_len 9 x h0 (by omega)
theorem digs_byt (x : Int) : Byt (digs x) := by
 intro c hc
 obtain ⟨b, _, rfl⟩ := List.mem_map.1 hc
 have := b.toNat_lt
 omega
theorem byt_one {c : Int} (h : 0 ≤ c ∧ c ≤ 255) : Byt [c] := fun x hx => by
 obtain rfl := List.mem_singleton.1 hx
 exact h
theorem byt_nil : Byt [] := fun x hx => by cases hx
theorem byt_at {l : List Int} (h : ∀ j, j < l.length → 0 ≤ l.getD j 0 ∧ l.getD j 0 ≤ 255) : Byt l := fun c hc => by
 obtain ⟨i, hi, rfl⟩ := List.getElem_of_mem hc
 have := h i hi
 rw [List.getD_eq_getElem?_getD, List.getElem?_eq_getElem hi] at this
 exact this
theorem Byt.at_ {l : List Int} (h : Byt l) {j : Nat} (hj : j < l.length) : 0 ≤ l.getD j 0 ∧ l.getD j 0 ≤ 255 := by
 rw [List.getD_eq_getElem?_getD, List.getElem?_eq_getElem hj]
 exact h _ (List.getElem_mem hj)
theorem label_byt {l : List Int} (h : labelOk l = true) : Byt l := byt_at fun j hj => by
 have h1 := (of_decide_eq_true h).2.2 j hj
 have := of_decide_eq_true h1
 omega
theorem dots_byt {n : List (List Int)} (h : nameOk n = true) (k : Nat) : Byt (dots n k) := by
 induction k with
 | zero => rw [dots_zero]; exact byt_nil
 | succ k ih =>
  by_cases hk : k < n.length
  ·rw [dots_succ n k hk]
   exact (ih.app (label_byt ((nameOk_parts h).2 k hk))).app (byt_one (by omega))
  ·have e : dots n (k + 1) = dots n k := by unfold dots; rw [List.take_of_length_le (by omega), List.take_of_length_le (by omega)]
   rw [e]; exact ih
theorem nameText_byt (n : List (List Int)) : Byt (nameText n) := by
 unfold nameText
 split
 ·rename_i h
  split
  ·exact byt_one (by omega)
  ·exact dots_byt h _
 ·exact byt_nil
theorem idot_byt (n : Int) (j : Nat) : Byt (idot n j) := by
 induction j with
 | zero => exact byt_nil
 | succ j ih =>
  refine (ih.app ?_).app (digs_byt _)
  split
  ·exact byt_one (by omega)
  ·exact byt_nil
theorem dotted_byt (n : Int) : Byt (dotted n) := by
 unfold dotted
 split
 ·exact idot_byt n 4
 ·exact byt_nil

def hexD (d : Int) : Int := if d < 10 then 48 + d else 87 + d
theorem hexD_byte {d : Int} (h0 : 0 ≤ d) (h1 : d ≤ 15) : 0 ≤ hexD d ∧ hexD d ≤ 255 := by unfold hexD; split <;> omega
def hexs (l : List Int) (k : Nat) : List Int := ((l.take k).map (fun c => [hexD (c / 16), hexD (c % 16)])).flatten
theorem hexs_zero (l : List Int) : hexs l 0 = [] := by simp [hexs]
theorem hexs_succ (l : List Int) (k : Nat) (h : k < l.length) : hexs l (k + 1) = hexs l k ++ [hexD (l.getD k 0 / 16), hexD (l.getD k 0 % 16)] := by
 unfold hexs
 rw [List.take_succ_eq_append_getElem h, List.map_append, List.flatten_append, show l.getD k 0 = l[k] by simp [h]]
 rfl
theorem hexs_late (l : List Int) (k : Nat) (h : l.length ≤ k) : hexs l (k + 1) = hexs l k := by unfold hexs; rw [List.take_of_length_le (by omega), List.take_of_length_le (by omega)]
theorem hexs_length (l : List Int) (k : Nat) : (hexs l k).length ≤ 2 * k := by
 induction k with
 | zero => simp [hexs]
 | succ k ih =>
  by_cases h : k < l.length
  ·rw [hexs_succ l k h]
   simp only [List.length_append, List.length_cons, List.length_nil]
   omega
  ·rw [hexs_late l k (by omega)]; omega
theorem hexs_byt {l : List Int} (h : Byt l) (k : Nat) : Byt (hexs l k) := by
 induction k with
 | zero => rw [hexs_zero]; exact byt_nil
 | succ k ih =>
  by_cases hk : k < l.length
  ·rw [hexs_succ l k hk]
   have := h.at_ hk
   exact ih.app ((byt_one (hexD_byte (by omega) (by omega))).app (byt_one (hexD_byte (by omega) (by omega))))
  ·rw [hexs_late l k (by omega)]; exact ih

def typeT (t : Int) : List Int := if t = 1 then [65] else if t = 2 then [78, 83] else if t = 5 then [67, 78, 65, 77, 69] else if t = 6 then [83, 79, 65] else if t = 12 then [80, 84, 82] else if t = 16 then [84, 88, 84] else [68, 72, 67, 73, 68]
theorem typeT_length (t : Int) : 1 ≤ (typeT t).length ∧ (typeT t).length ≤ 5 := by
 unfold typeT
 repeat' split
 all_goals simp
theorem typeT_byt (t : Int) : Byt (typeT t) := by
 unfold typeT
 repeat' split
 all_goals
  intro c hc
  simp only [List.mem_cons, List.not_mem_nil, or_false] at hc
  omega
theorem dots_one (n : List (List Int)) (k : Nat) (h : k < n.length) : 1 ≤ (dots n (k + 1)).length := by
 rw [dots_succ n k h]
 simp only [List.length_append, List.length_cons, List.length_nil]
 omega
theorem nameText_one {n : List (List Int)} (h : nameOk n = true) : 1 ≤ (nameText n).length := by
 by_cases h0 : n.length = 0
 ·rw [nameText_root h h0]; simp
 ·rw [nameText_some h h0]
  obtain ⟨k, hk⟩ : ∃ k, n.length = k + 1 := ⟨n.length - 1, by omega⟩
  have := dots_one n k (by omega)
  rw [hk]; exact this
set_option maxHeartbeats 800000
set_option maxRecDepth 100000

def typeOk (t : Int) : Bool := decide (t = 1 ∨ t = 2 ∨ t = 5 ∨ t = 6 ∨ t = 12 ∨ t = 16 ∨ t = 49)

def kindV (t : Int) : Value := if t = 1 then .iface 67 (.agg #[.int .i64 0]) else if t = 2 ∨ t = 5 ∨ t = 12 then .iface 69 (.agg #[.slice none 0 0]) else if t = 6 then .iface 71 (.agg #[.slice none 0 0, .slice none 0 0]) else if t = 16 ∨ t = 49 then .iface 73 (.agg #[.slice none 0 0]) else .nilIface

theorem type_cases (t : Int) : t = 1 ∨ t = 2 ∨ t = 5 ∨ t = 6 ∨ t = 12 ∨ t = 16 ∨ t = 49 ∨ typeOk t = false := by
 by_cases h : t = 1 ∨ t = 2 ∨ t = 5 ∨ t = 6 ∨ t = 12 ∨ t = 16 ∨ t = 49
 ·omega
 ·have : typeOk t = false := decide_eq_false h
  simp [this]
theorem type_other {t : Int} (h : typeOk t = false) : (t == 1) = false ∧ (t == 2) = false ∧ (t == 5) = false ∧ (t == 6) = false ∧ (t == 12) = false ∧ (t == 16) = false ∧ (t == 49) = false := by
 have h' : ¬ (t = 1 ∨ t = 2 ∨ t = 5 ∨ t = 6 ∨ t = 12 ∨ t = 16 ∨ t = 49) := of_decide_eq_false h
 simp only [beq_eq_false_iff_ne]
 omega
theorem kindV_other {t : Int} (h : typeOk t = false) : kindV t = .nilIface := by
 have h' : ¬ (t = 1 ∨ t = 2 ∨ t = 5 ∨ t = 6 ∨ t = 12 ∨ t = 16 ∨ t = 49) := of_decide_eq_false h
 unfold kindV
 rw [if_neg (by omega), if_neg (by omega), if_neg (by omega), if_neg (by omega)]

theorem kindOf_any (t : Int) (w : World) : Calls Tryd.prog 48 #[.int .i64 t] w fun e w' => e = .returned (kindV t) ∧ w = w' := by
 rcases type_cases t with rfl | rfl | rfl | rfl | rfl | rfl | rfl | h
 iterate 7
  ·go_enter Tryd.func48, Tryd.ntmps48
   go_wp2
   go_ret
   exact ⟨rfl, rfl⟩
 ·obtain ⟨h1, h2, h3, h4, h5, h6, h7⟩ := type_other h
  rw [kindV_other h]
  go_enter Tryd.func48, Tryd.ntmps48
  go_wp2
  go_ret
  exact ⟨rfl, rfl⟩

theorem specTypeOk_any (t : Int) (w : World) : Calls Tryd.prog 33 #[.int .i64 t] w fun e w' => e = .returned (.bool (typeOk t)) ∧ w = w' := by
 rcases type_cases t with rfl | rfl | rfl | rfl | rfl | rfl | rfl | h
 iterate 7
  ·go_enter Tryd.func33, Tryd.ntmps33
   go_wp2
   go_ret
   exact ⟨rfl, rfl⟩
 ·obtain ⟨h1, h2, h3, h4, h5, h6, h7⟩ := type_other h
  rw [h]
  go_enter Tryd.func33, Tryd.ntmps33
  go_wp2
  go_ret
  exact ⟨rfl, rfl⟩

theorem implTypeOk_any (t : Int) (w : World) : Calls Tryd.prog 43 #[.int .i64 t] w fun e w' => e = .returned (.bool (typeOk t)) ∧ w = w' := by
 have hk : (kindV t = .nilIface ∧ typeOk t = false) ∨ ∃ ty v, kindV t = .iface ty v ∧ typeOk t = true := by
  rcases type_cases t with rfl | rfl | rfl | rfl | rfl | rfl | rfl | h
  iterate 7 exact .inr ⟨_, _, rfl, rfl⟩
  exact .inl ⟨kindV_other h, h⟩
 go_enter Tryd.func43, Tryd.ntmps43
 go_wp2_with fail
 refine (kindOf_any t _).mono ?_
 rintro e w1 ⟨rfl, rfl⟩
 rcases hk with ⟨h1, h2⟩ | ⟨ty, v, h1, h2⟩
 ·rw [h1]
  go_wp2
  go_ret
  exact ⟨by rw [h2]; rfl, rfl⟩
 ·rw [h1]
  go_wp2
  go_ret
  exact ⟨by rw [h2]; rfl, rfl⟩
end Go.Proofs.YthmihglfffeedaaDoor

namespace Go.Proofs.YthmihglfffeedaaDoor
open Go.RowKit

def named (t : Int) : Bool := decide (t = 2 ∨ t = 5 ∨ t = 6 ∨ t = 12)
def texted (t : Int) : Bool := decide (t = 16 ∨ t = 49)

def dataOk (r : Rec) : Bool :=
 (if r.type = 1 then decide (0 ≤ r.addr ∧ r.addr ≤ 4294967295) else decide (r.addr = 0)) && ((if named r.type = true then nameOk r.to else decide (r.to.length = 0)) && ((if texted r.type = true then decide (r.text.length ≤ 40) else decide (r.text.length = 0)) &&
 (if r.type = 6 then decide (r.nums.length = 2 ∧ 0 ≤ r.nums.getD 0 0 ∧ r.nums.getD 0 0 ≤ 4294967295 ∧ 0 ≤ r.nums.getD 1 0 ∧ r.nums.getD 1 0 ≤ 100000) else decide (r.nums.length = 0))))
def rrOk (r : Rec) : Bool := nameOk r.name && (typeOk r.type && (decide (0 ≤ r.ttl ∧ r.ttl ≤ 100000) && dataOk r))

theorem HasI.two {w : World} {v : Value} {x y : Int} (h : HasI w v [x, y]) : ∃ g off cap, v = .slice (some ⟨g, off, none⟩) 2 cap ∧ g < w.heap.size ∧ w.cell? ⟨g, off, none⟩ = some (.int .i64 x) ∧ w.cell? ⟨g, off + 1, none⟩ = some (.int .i64 y) := by
 rcases h with ⟨_, h⟩ | ⟨g, off, cap, hv, hlt, _, _, hc⟩
 ·cases h
 ·exact ⟨g, off, cap, hv, hlt, hc 0 (by simp), hc 1 (by simp)⟩
theorem two_of {l : List Int} (h : l.length = 2) : ∃ x y, l = [x, y] := by
 match l, h with
 | [x, y], _ => exact ⟨x, y, rfl⟩
theorem nil_of {α : Type} {l : List α} (h : l.length = 0) : l = [] := List.eq_nil_of_length_eq_zero h
end Go.Proofs.YthmihglfffeedaaDoor

namespace Go.Proofs.YthmihglfffeedaaDoor
open Go.RowKit

def dataB (r : Rec) : List Int :=
 if r.type = 1 then put32 [] r.addr else if r.type = 6 then put32 (put32 (wire r.to) (r.nums.getD 0 0)) (r.nums.getD 1 0) else if named r.type = true then wire r.to else (r.text.length : Int) :: r.text

theorem data_kinds {r : Rec} (ht : typeOk r.type = true) (h : dataOk r = true) :
  (r.type = 1 ∧ 0 ≤ r.addr ∧ r.addr ≤ 4294967295 ∧ dataB r = put32 [] r.addr) ∨ ((r.type = 2 ∨ r.type = 5 ∨ r.type = 12) ∧ nameOk r.to = true ∧ dataB r = wire r.to) ∨
  (r.type = 6 ∧ nameOk r.to = true ∧ (∃ x y, r.nums = [x, y] ∧ 0 ≤ x ∧ x ≤ 4294967295 ∧ 0 ≤ y ∧ y ≤ 100000 ∧ dataB r = put32 (put32 (wire r.to) x) y)) ∨ ((r.type = 16 ∨ r.type = 49) ∧ r.text.length ≤ 40 ∧ dataB r = (r.text.length : Int) :: r.text) := by
 have ht' : r.type = 1 ∨ r.type = 2 ∨ r.type = 5 ∨ r.type = 6 ∨ r.type = 12 ∨ r.type = 16 ∨ r.type = 49 := of_decide_eq_true ht
 unfold dataOk at h
 simp only [Bool.and_eq_true] at h
 obtain ⟨h1, h2, h3, h4⟩ := h
 by_cases e1 : r.type = 1
 ·left
  rw [if_pos e1] at h1
  have := of_decide_eq_true h1
  exact ⟨e1, this.1, this.2, by unfold dataB; rw [if_pos e1]⟩
 by_cases e6 : r.type = 6
 ·right; right; left
  have hn : named r.type = true := decide_eq_true (by omega)
  rw [if_pos hn] at h2
  rw [if_pos e6] at h4
  have h5 := of_decide_eq_true h4
  obtain ⟨x, y, hxy⟩ := two_of h5.1
  rw [hxy] at h5
  refine ⟨e6, h2, x, y, hxy, h5.2.1, h5.2.2.1, h5.2.2.2.1, h5.2.2.2.2, ?_⟩
  unfold dataB
  rw [if_neg e1, if_pos e6, hxy]
  rfl
 by_cases en : r.type = 2 ∨ r.type = 5 ∨ r.type = 12
 ·right; left
  have hn : named r.type = true := decide_eq_true (by omega)
  rw [if_pos hn] at h2
  exact ⟨en, h2, by unfold dataB; rw [if_neg e1, if_neg e6, if_pos hn]⟩
 ·right; right; right
  have hx : texted r.type = true := decide_eq_true (by omega)
  have hn : ¬ named r.type = true := by
   intro hh
   have : r.type = 2 ∨ r.type = 5 ∨ r.type = 6 ∨ r.type = 12 := of_decide_eq_true hh
   omega
  rw [if_pos hx] at h3
  exact ⟨by omega, of_decide_eq_true h3, by unfold dataB; rw [if_neg e1, if_neg e6, if_neg hn]⟩
theorem rrOk_parts {r : Rec} (h : rrOk r = true) : nameOk r.name = true ∧ typeOk r.type = true ∧ 0 ≤ r.ttl ∧ r.ttl ≤ 100000 ∧ dataOk r = true := by
 unfold rrOk at h
 simp only [Bool.and_eq_true] at h
 have := of_decide_eq_true h.2.2.1
 exact ⟨h.1, h.2.1, this.1, this.2, h.2.2.2⟩
end Go.Proofs.YthmihglfffeedaaDoor

namespace Go.Proofs.YthmihglfffeedaaDoor
open Go.RowKit
set_option linter.unusedVariables false

def dataT (r : Rec) : List Int :=
 if r.type = 1 then dotted r.addr
 else if r.type = 2 ∨ r.type = 5 ∨ r.type = 12 then nameText r.to
 else if r.type = 6 then nameText r.to ++ [32] ++ digs (r.nums.getD 0 0) ++ [32] ++ digs (r.nums.getD 1 0)
 else hexs r.text r.text.length
theorem dataT_A {r : Rec} (h : r.type = 1) : dataT r = dotted r.addr := if_pos h
theorem dataT_N {r : Rec} (h : r.type = 2 ∨ r.type = 5 ∨ r.type = 12) : dataT r = nameText r.to := by
 unfold dataT
 rw [if_neg (by omega), if_pos h]
theorem dataT_S {r : Rec} {x y : Int} (h : r.type = 6) (hn : r.nums = [x, y]) : dataT r = nameText r.to ++ [32] ++ digs x ++ [32] ++ digs y := by
 unfold dataT
 rw [if_neg (by omega), if_neg (by omega), if_pos h, hn]
 rfl
theorem dataT_X {r : Rec} (h : r.type = 16 ∨ r.type = 49) : dataT r = hexs r.text r.text.length := by
 unfold dataT
 rw [if_neg (by omega), if_neg (by omega), if_neg (by omega)]
theorem dataT_byt {r : Rec} (h : Byt r.text) : Byt (dataT r) := by
 unfold dataT
 split
 ·exact dotted_byt _
 split
 ·exact nameText_byt _
 split
 ·exact ((((nameText_byt _).app (byt_one (by omega))).app (digs_byt _)).app (byt_one (by omega))).app (digs_byt _)
 ·exact hexs_byt h _
theorem dataT_length {r : Rec} (h : rrOk r = true) : (dataT r).length ≤ 120 := by
 obtain ⟨_, ht, _, _, hd⟩ := rrOk_parts h
 rcases data_kinds ht hd with ⟨e, _, _, _⟩ | ⟨e, hn, _⟩ | ⟨e, hn, x, y, hxy, hx0, hx1, hy0, hy1, _⟩ | ⟨e, hx, _⟩
 ·rw [dataT_A e]; have := dotted_length r.addr; omega
 ·rw [dataT_N e]; have := nameText_length r.to; omega
 ·rw [dataT_S e hxy]
  have := nameText_length r.to
  have := digs_ten hx0 hx1
  have := digs_ten hy0 (by omega)
  simp only [List.length_append, List.length_cons, List.length_nil]
  omega
 ·rw [dataT_X e]; have := hexs_length r.text r.text.length; omega
def rrText (r : Rec) : List Int := if rrOk r = true then nameText r.name ++ [32] ++ digs r.ttl ++ [32] ++ typeT r.type ++ [32] ++ dataT r else []
theorem rrText_no {r : Rec} (h : rrOk r = false) : rrText r = [] := by simp [rrText, h]
theorem rrText_yes {r : Rec} (h : rrOk r = true) : rrText r = nameText r.name ++ [32] ++ digs r.ttl ++ [32] ++ typeT r.type ++ [32] ++ dataT r := by simp [rrText, h]
theorem rrText_length (r : Rec) : (rrText r).length ≤ 300 := by
 cases h : rrOk r with
 | false => rw [rrText_no h]; simp
 | true =>
  rw [rrText_yes h]
  obtain ⟨_, _, h0, h1, _⟩ := rrOk_parts h
  have := nameText_length r.name
  have := digs_ten h0 (by omega)
  have := typeT_length r.type
  have := dataT_length h
  simp only [List.length_append, List.length_cons, List.length_nil]
  omega
set_option maxHeartbeats 400000 in
set_option maxRecDepth 100000 in
theorem copyBytes_reads {v : Value} {l : List Int} {w : World} (h : Reads w v l) (hl : l.length ≤ 2097152) :
  Calls Tryd.prog 89 #[v] w fun e w' => ∃ v', e = .returned v' ∧ Own w.heap.size 5 w' v' l ∧ Below w.heap.size w w' := by
 go_enter Tryd.func89, Tryd.ntmps89
 go_wp2_with (at_builtin; refine append_bytes rfl _ _ 25 5 rfl Tryd.underlying25 VJ w.heap.size (.slice none 0 0) v [] l rfl rfl (World.ownsRow_nil _ _ _ _) h ?c1 (Nat.le_refl _) ?_)
 case c1 => simp; omega
 intro v' w1 hown hgrow
 go_wp2
 go_ret
 exact ⟨v', rfl, hown, below_of_grown hgrow⟩

theorem copyBytes_own {B : Nat} {v : Value} {l : List Int} {w : World} (h : Own B 5 w v l) (hl : l.length ≤ 2097152) :
  Calls Tryd.prog 89 #[v] w fun e w' => ∃ v', e = .returned v' ∧ Own w.heap.size 5 w' v' l ∧ Below w.heap.size w w' := copyBytes_reads h.reads hl
set_option maxHeartbeats 400000
set_option maxRecDepth 100000

theorem upTo_yes {n m : Int} (w : World) (h0 : 0 ≤ n) (h1 : n ≤ m) : Calls Tryd.prog 44 #[.int .i64 n, .int .i64 m] w fun e w' => e = .returned (.bool true) ∧ w = w' := by
 go_enter Tryd.func44, Tryd.ntmps44
 go_wp2
 go_ret
 exact ⟨rfl, rfl⟩

theorem upTo_no {n m : Int} (w : World) (h : n < 0 ∨ m < n) : Calls Tryd.prog 44 #[.int .i64 n, .int .i64 m] w fun e w' => e = .returned (.bool false) ∧ w = w' := by
 by_cases h0 : n < 0
 ·go_enter Tryd.func44, Tryd.ntmps44
  go_wp2
  go_ret
  exact ⟨rfl, rfl⟩
 ·have h1 : m < n := by omega
  have h2 : decide (n ≤ m) = false := decide_eq_false (by omega)
  go_enter Tryd.func44, Tryd.ntmps44
  go_wp2
  go_ret
  exact ⟨rfl, rfl⟩
theorem upTo_any (n m : Int) (w : World) : Calls Tryd.prog 44 #[.int .i64 n, .int .i64 m] w fun e w' => e = .returned (.bool (decide (0 ≤ n ∧ n ≤ m))) ∧ w = w' := by
 by_cases h : 0 ≤ n ∧ n ≤ m
 ·rw [decide_eq_true h]; exact upTo_yes w h.1 h.2
 ·rw [decide_eq_false h]; exact upTo_no w (by omega)
set_option maxHeartbeats 800000 in
set_option maxRecDepth 100000 in
theorem implPut32_yes {B : Nat} {v : Value} {l : List Int} (n : Int) {w : World} (h : Own B 5 w v l) (hl : l.length ≤ 1048576) (h0 : 0 ≤ n) (h1 : n ≤ 4294967295) :
  Calls Tryd.prog 88 #[v, .int .i64 n] w fun e w' => ∃ v', e = .returned v' ∧ Own w.heap.size 5 w' v' (l ++ [n / 16777216, n / 65536 % 256, n / 256 % 256, n % 256]) ∧ Below w.heap.size w w' := by
 go_enter Tryd.func88, Tryd.ntmps88
 go_wp2_with fail
 refine (upTo_yes _ h0 h1).mono ?_
 rintro e w0 ⟨rfl, rfl⟩
 go_wp2_with fail
 refine (copyBytes_own h (by omega)).mono ?_
 rintro e w1 ⟨v1, rfl, o1, b1⟩
 have hsz := b1.size
 go_wp2_with (at_builtin; refine append_bytes rfl _ _ 25 5 rfl Tryd.underlying25 VJ w.heap.size v1 _ l [n / 16777216, n / 65536 % 256, n / 256 % 256, n % 256] rfl rfl (o1.alloc _) (own_put32 w1 0 5 n (Nat.zero_le _)).reads (by simp; omega) (by simp; omega) ?_)
 intro v' w2 hown hgrow
 go_wp2
 go_ret
 exact ⟨v', rfl, hown, (b1.alloc hsz _).grown hgrow (by simp; omega) (fun k hk => (o1.lt k hk).1)⟩

end Go.Proofs.YthmihglfffeedaaDoor
