/-
  Contracts of the program's Put16 and Put32 for longer rows, and of its classPut. A region that draws its order, one way through it: what only looks is taken in the order of its number, whether its guard wants it or not.
-/
import Derived.Test.YtnplmeifhebhhaaGreatReplyToG13
import Derived.Test.YtnplmeifhebhhaaGreatReplyToG20
import Derived.Test.YtnplmeifhebhhaaGreatReplyToG05
import Derived.Deep.RegionHeld3
namespace Go.Proofs.YtnplmeifhebhhaaGreat
open Go.RowKit
set_option linter.unusedVariables false

set_option maxHeartbeats 800000 in
set_option maxRecDepth 100000 in
theorem implPut16w_yes {B : Nat} {v : Value} {l : List Int} (n : Int) {w : World} (h : Own B 5 w v l) (hl : l.length ≤ 2000000) (h0 : 0 ≤ n) (h1 : n ≤ 65535) :
  Calls Tryz.prog 87 #[v, .int .i64 n] w fun e w' => ∃ v', e = .returned v' ∧ Own w.heap.size 5 w' v' (l ++ [n / 256, n % 256]) ∧ Below w.heap.size w w' := by
 go_enter Tryz.func87, Tryz.ntmps87
 go_wp2_with fail
 refine (upTo_yes _ h0 h1).mono ?_
 rintro e w0 ⟨rfl, rfl⟩
 go_wp2_with fail
 refine (copyBytes_own h (by omega)).mono ?_
 rintro e w1 ⟨v1, rfl, o1, b1⟩
 have hsz := b1.size
 go_wp2_with (at_builtin; refine append_bytes rfl _ _ 37 5 rfl Tryz.underlying37 info_u8 w.heap.size v1 _ l [n / 256, n % 256] rfl rfl (o1.alloc _) (own_put16 w1 0 5 n (Nat.zero_le _)).reads (by simp; omega) (by simp; omega) ?_)
 intro v' w2 hown hgrow
 go_wp2
 go_ret
 exact ⟨v', rfl, hown, (b1.alloc hsz _).grown hgrow (by simp; omega) (fun k hk => (o1.lt k hk).1)⟩

set_option maxHeartbeats 400000 in
set_option maxRecDepth 100000 in
theorem implPut16w_no {B : Nat} {v : Value} {l : List Int} (n : Int) {w : World} (h : Own B 5 w v l) (hl : l.length ≤ 2000000) (hn : n < 0 ∨ 65535 < n) :
  Calls Tryz.prog 87 #[v, .int .i64 n] w fun e w' => ∃ v', e = .returned v' ∧ Own w.heap.size 5 w' v' l ∧ Below w.heap.size w w' := by
 go_enter Tryz.func87, Tryz.ntmps87
 go_wp2_with fail
 refine (upTo_no _ hn).mono ?_
 rintro e w0 ⟨rfl, rfl⟩
 go_wp2_with fail
 refine (copyBytes_own h (by omega)).mono ?_
 rintro e w1 ⟨v1, rfl, o1, b1⟩
 go_wp2
 go_ret
 exact ⟨v1, rfl, o1, b1⟩

theorem implPut16w_any {B : Nat} {v : Value} {l : List Int} (n : Int) {w : World} (h : Own B 5 w v l) (hl : l.length ≤ 2000000) :
  Calls Tryz.prog 87 #[v, .int .i64 n] w fun e w' => ∃ v', e = .returned v' ∧ Own w.heap.size 5 w' v' (put16 l n) ∧ Below w.heap.size w w' := by
 by_cases hn : 0 ≤ n ∧ n ≤ 65535
 ·have e : put16 l n = l ++ [n / 256, n % 256] := by unfold put16; rw [if_pos hn]
  rw [e]; exact implPut16w_yes n h hl hn.1 hn.2
 ·have e : put16 l n = l := by unfold put16; rw [if_neg hn]
  rw [e]; exact implPut16w_no n h hl (by omega)
set_option maxHeartbeats 800000 in
set_option maxRecDepth 100000 in
theorem implPut32w_yes {B : Nat} {v : Value} {l : List Int} (n : Int) {w : World} (h : Own B 5 w v l) (hl : l.length ≤ 2000000) (h0 : 0 ≤ n) (h1 : n ≤ 4294967295) :
  Calls Tryz.prog 130 #[v, .int .i64 n] w fun e w' => ∃ v', e = .returned v' ∧ Own w.heap.size 5 w' v' (l ++ [n / 16777216, n / 65536 % 256, n / 256 % 256, n % 256]) ∧ Below w.heap.size w w' := by
 go_enter Tryz.func130, Tryz.ntmps130
 go_wp2_with fail
 refine (upTo_yes _ h0 h1).mono ?_
 rintro e w0 ⟨rfl, rfl⟩
 go_wp2_with fail
 refine (copyBytes_own h (by omega)).mono ?_
 rintro e w1 ⟨v1, rfl, o1, b1⟩
 have hsz := b1.size
 go_wp2_with (at_builtin; refine append_bytes rfl _ _ 37 5 rfl Tryz.underlying37 info_u8 w.heap.size v1 _ l [n / 16777216, n / 65536 % 256, n / 256 % 256, n % 256] rfl rfl (o1.alloc _) (own_put32 w1 0 5 n (Nat.zero_le _)).reads (by simp; omega) (by simp; omega) ?_)
 intro v' w2 hown hgrow
 go_wp2
 go_ret
 exact ⟨v', rfl, hown, (b1.alloc hsz _).grown hgrow (by simp; omega) (fun k hk => (o1.lt k hk).1)⟩

set_option maxHeartbeats 400000 in
set_option maxRecDepth 100000 in
theorem implPut32w_no {B : Nat} {v : Value} {l : List Int} (n : Int) {w : World} (h : Own B 5 w v l) (hl : l.length ≤ 2000000) (hn : n < 0 ∨ 4294967295 < n) :
  Calls Tryz.prog 130 #[v, .int .i64 n] w fun e w' => ∃ v', e = .returned v' ∧ Own w.heap.size 5 w' v' l ∧ Below w.heap.size w w' := by
 go_enter Tryz.func130, Tryz.ntmps130
 go_wp2_with fail
 refine (upTo_no _ hn).mono ?_
 rintro e w0 ⟨rfl, rfl⟩
 go_wp2_with fail
 refine (copyBytes_own h (by omega)).mono ?_
 rintro e w1 ⟨v1, rfl, o1, b1⟩
 go_wp2
 go_ret
 exact ⟨v1, rfl, o1, b1⟩

theorem implPut32w_any {B : Nat} {v : Value} {l : List Int} (n : Int) {w : World} (h : Own B 5 w v l) (hl : l.length ≤ 2000000) :
  Calls Tryz.prog 130 #[v, .int .i64 n] w fun e w' => ∃ v', e = .returned v' ∧ Own w.heap.size 5 w' v' (put32 l n) ∧ Below w.heap.size w w' := by
 by_cases hn : 0 ≤ n ∧ n ≤ 4294967295
 ·have e : put32 l n = l ++ [n / 16777216, n / 65536 % 256, n / 256 % 256, n % 256] := by unfold put32; rw [if_pos hn]
  rw [e]; exact implPut32w_yes n h hl hn.1 hn.2
 ·have e : put32 l n = l := by unfold put32; rw [if_neg hn]
  rw [e]; exact implPut32w_no n h hl (by omega)


set_option maxHeartbeats 2000000 in
set_option maxRecDepth 100000 in
theorem classPut_has {vb vn vt vx vi vd : Value} {l D : List Int} {r : Rec} (c : Int) {w : World} (hvb : Has w vb l) (hl : l.length ≤ 1048576) (h : HasR w vn vt vx vi r) (hno : nameOk r.name = true) (hd : Has w vd D) (q2 : D.length ≤ 1000) :
  Calls Tryz.prog 117 #[vb, .agg #[vn, .int .i64 r.type, .int .i64 r.ttl, .int .i64 r.addr, vt, vx, vi], .int .i64 c, vd] w fun e w' => ∃ v', e = .returned v' ∧ Own w.heap.size 5 w' v' (classB l r c D) ∧ Below w.heap.size w w' := by
 obtain ⟨na, nc, rfl, _⟩ := h.name.form
 obtain ⟨ta, tc, rfl, _⟩ := h.to.form
 obtain ⟨xa, xc, rfl, _⟩ := h.text.form
 obtain ⟨ia, ic, rfl, _⟩ := h.nums.form
 obtain ⟨ya, yc, rfl, _⟩ := hd.form
 have bb1 := below_alloc (w := w) (.cells #[.slice na r.name.length nc, .int .i64 r.type, .int .i64 r.ttl, .int .i64 r.addr, .slice ta r.to.length tc, .slice xa r.text.length xc, .slice ia r.nums.length ic] 108)
 have K1 := hide (heap_alloc_new w (.cells #[.slice na r.name.length nc, .int .i64 r.type, .int .i64 r.ttl, .int .i64 r.addr, .slice ta r.to.length tc, .slice xa r.text.length xc, .slice ia r.nums.length ic] 108))
 have H1 := hide (h.below bb1)
 have V1 := hide (hvb.below bb1)
 have Y1 := hide (hd.below bb1)
 have HL := hide (show ∀ (w : World) (v : Value), Has w vb l → HasL w v r.name → Calls Tryz.prog 86 #[vb, .agg #[v]] w fun e w' => ∃ v', e = .returned (.tuple #[v', .bool true]) ∧ Own w.heap.size 5 w' v' (l ++ wire r.name) ∧ Below w.heap.size w w' from fun w v h1 h2 => by
  have q := implNamePut_has h1 hl h2
  rw [namePut_yes hno, hno] at q
  exact q)
 have q1 := wire_length r.name hno
 have q3 := put16_length (l ++ wire r.name) r.type
 have q4 := put16_length (put16 (l ++ wire r.name) r.type) c
 have q5 := put32_length (put16 (put16 (l ++ wire r.name) r.type) c) r.ttl
 have q6 := put16_length (put32 (put16 (put16 (l ++ wire r.name) r.type) c) r.ttl) D.length
 rw [List.length_append] at q3
 have hl1 : (l ++ wire r.name).length ≤ 2000000 := by rw [List.length_append]; omega
 have P1 := hide (fun (w : World) (C : Nat) (v : Value) (hv : Own C 5 w v (l ++ wire r.name)) => implPut16w_any r.type hv hl1)
 have P2 := hide (fun (w : World) (C : Nat) (v : Value) (hv : Own C 5 w v (put16 (l ++ wire r.name) r.type)) => implPut16w_any c hv (by omega))
 have P3 := hide (fun (w : World) (C : Nat) (v : Value) (hv : Own C 5 w v (put16 (put16 (l ++ wire r.name) r.type) c)) => implPut32w_any r.ttl hv (by omega))
 have P4 := hide (fun (w : World) (C : Nat) (v : Value) (hv : Own C 5 w v (put32 (put16 (put16 (l ++ wire r.name) r.type) c) r.ttl)) => implPut16w_any D.length hv (by omega))
 have hl4 : (put16 (put32 (put16 (put16 (l ++ wire r.name) r.type) c) r.ttl) D.length).length ≤ 2000000 := by omega
 unfold classB
 generalize put16 (put32 (put16 (put16 (l ++ wire r.name) r.type) c) r.ttl) D.length = G4 at *
 generalize put32 (put16 (put16 (l ++ wire r.name) r.type) c) r.ttl = G3 at *
 generalize put16 (put16 (l ++ wire r.name) r.type) c = G2 at *
 generalize put16 (l ++ wire r.name) r.type = G1 at *
 generalize l ++ wire r.name = G0 at *
 have z1 := bb1.size
 clear h hvb hno q1 q3 q4 q5 q6 hd
 go_enter Tryz.func117, Tryz.ntmps117
 obtain ⟨d0, d1, d2, d3, d4, d5, d6⟩ := cells7 (unhide K1)
 go_wp2_with fail
 clear d0 d1 d2 d3 d4 d5 d6
 generalize w.alloc (.cells #[.slice na r.name.length nc, .int .i64 r.type, .int .i64 r.ttl, .int .i64 r.addr, .slice ta r.to.length tc, .slice xa r.text.length xc, .slice ia r.nums.length ic] 108) = w1 at *
 refine (unhide HL _ _ (unhide V1) (unhide H1).name).mono ?_
 rintro e w2 ⟨v2, rfl, o2, b2⟩
 have bb2 := below_next bb1 b2
 have K2 := hide (block_kept b2 (unhide K1))
 have Y2 := hide ((unhide Y1).below b2)
 have z2 := b2.size
 clear bb1 K1 Y1 b2
 obtain ⟨d0, d1, d2, d3, d4, d5, d6⟩ := cells7 (unhide K2)
 go_wp2_with fail
 clear d0 d1 d2 d3 d4 d5 d6
 refine (unhide P1 _ _ _ o2).mono ?_
 rintro e w3 ⟨v3, rfl, o3, b3⟩
 have bb3 := below_next bb2 b3
 have K3 := hide (block_kept b3 (unhide K2))
 have Y3 := hide ((unhide Y2).below b3)
 have z3 := b3.size
 clear bb2 K2 Y2 b3
 go_wp2_with fail
 refine (unhide P2 _ _ _ o3).mono ?_
 rintro e w4 ⟨v4, rfl, o4, b4⟩
 have bb4 := below_next bb3 b4
 have K4 := hide (block_kept b4 (unhide K3))
 have Y4 := hide ((unhide Y3).below b4)
 have z4 := b4.size
 clear bb3 K3 Y3 b4
 obtain ⟨d0, d1, d2, d3, d4, d5, d6⟩ := cells7 (unhide K4)
 go_wp2_with fail
 clear d0 d1 d2 d3 d4 d5 d6
 refine (unhide P3 _ _ _ o4).mono ?_
 rintro e w5 ⟨v5, rfl, o5, b5⟩
 have bb5 := below_next bb4 b5
 have K5 := hide (block_kept b5 (unhide K4))
 have Y5 := hide ((unhide Y4).below b5)
 have z5 := b5.size
 clear bb4 K4 Y4 b5
 go_wp2_with fail
 refine (unhide P4 _ _ _ o5).mono ?_
 rintro e w6 ⟨v6, rfl, o6, b6⟩
 have bb6 := below_next bb5 b6
 have K6 := hide (block_kept b6 (unhide K5))
 have Y6 := hide ((unhide Y5).below b6)
 have z6 := b6.size
 clear bb5 K5 Y5 b6
 go_wp2_with (at_builtin; refine append_bytes rfl _ _ 37 5 rfl Tryz.underlying37 info_u8 w5.heap.size _ _ G4 D rfl rfl o6 (unhide Y6).reads (by omega) z6 ?_)
 intro v7 w7 o7 g7
 have b7 : Below w5.heap.size w6 w7 := (Below.refl _ _).grown g7 z6 (fun q hq => (o6.lt q hq).1)
 go_wp2_with fail
 go_ret
 exact ⟨v7, rfl, o7.mono (by omega), bb6.trans (b7.mono (by omega))⟩
end Go.Proofs.YtnplmeifhebhhaaGreat

namespace Go.Proofs.YtnplmeifhebhhaaGreat
open Go.RowKit
set_option linter.unusedVariables false

def nextF : List Bool → Nat
 | true :: l => nextF l + 1
 | _ => 0
def setF : List Bool → List Bool
 | true :: l => true :: setF l
 | false :: l => true :: l
 | [] => []
def dropF {α : Type} : List Bool → List α → List α
 | true :: l, _ :: m => dropF l m
 | _, m => m
theorem setF_eq : ∀ l : List Bool, l.set (nextF l) true = setF l
 | [] => rfl
 | false :: _ => rfl
 | true :: l => by simp [nextF, setF, setF_eq l]
theorem dropF_get {α : Type} {o : α} {r : List α} : ∀ (l : List Bool) (m : List α), dropF l m = o :: r → m[nextF l]? = some o
 | [], m, h => by simp only [dropF] at h; subst h; rfl
 | false :: _, m, h => by simp only [dropF] at h; subst h; rfl
 | true :: l, [], h => by simp only [dropF] at h; cases h
 | true :: l, _ :: m, h => by simp only [dropF] at h; simpa [nextF] using dropF_get l m h
def callsF : Op → Bool
 | .call _ => true
 | _ => false

section
variable {P : Program} {ops : Array Oper} {Q : Exit → Act → World → Prop} {md : Region.Mode} {S : World → Prop}
theorem ops_next {l : List Bool} {oi : Oper} {rest : List Oper} (hi : dropF l ops.toList = oi :: rest) : ops[nextF l]? = some oi := by
 have := dropF_get l ops.toList hi
 rwa [Array.getElem?_toList] at this
theorem ops_drop {i : Nat} {oi : Oper} {rest : List Oper} (hi : ops.toList.drop i = oi :: rest) : ops[i]? = some oi := by
 rw [← Array.getElem?_toList, ← List.head?_drop, hi]
 rfl
theorem listed_next (l : List Bool) : l.toArray.setIfInBounds (nextF l) true = (setF l).toArray := by
 rw [List.setIfInBounds_toArray, setF_eq]
/-- The next one is wanted and only looks. -/
theorem tkF (v : Value) {oi : Oper} {rest : List Oper} {fuel : Nat} {l : List Bool} {a : Act} {w : World} (hi : dropF l ops.toList = oi :: rest)
  (hk : (!callsF oi.op && Region.noSelect ops && Region.free md ops l.toArray (nextF l) && (Region.ready md ops l.toArray).contains (nextF l)) = true)
  (hb : Region.wanted oi (yielded ops a.tmps) = true) (hQ : ∀ c a w, Q (.panic c) (a.put oi.dst v) w → Q (.panic c) a w)
  (hy : ∀ w, S w → (execOp a.eval oi).run P w = .ok (.value v) w) (hS : S w)
  (h : wpAnyH P md ops Q S fuel (setF l).toArray (a.put oi.dst v) w) : wpAnyH P md ops Q S (fuel + 1) l.toArray a w := by
 simp only [Bool.and_eq_true] at hk
 refine wpAnyH_take (ops_next hi) hk.1.1.2 hk.1.2 hk.2 hQ (Or.inl ⟨hb, hy⟩) hS ?_
 rw [listed_next]
 exact h
/-- The next one is not wanted. -/
theorem skF {oi : Oper} {rest : List Oper} {fuel : Nat} {l : List Bool} {a : Act} {w : World} (hi : dropF l ops.toList = oi :: rest)
  (hk : (Region.noSelect ops && Region.free md ops l.toArray (nextF l) && (Region.ready md ops l.toArray).contains (nextF l)) = true)
  (hb : Region.wanted oi (yielded ops a.tmps) = false) (hQ : ∀ c a w, Q (.panic c) (a.put oi.dst undef) w → Q (.panic c) a w) (hS : S w)
  (h : wpAnyH P md ops Q S fuel (setF l).toArray (a.put oi.dst undef) w) : wpAnyH P md ops Q S (fuel + 1) l.toArray a w := by
 simp only [Bool.and_eq_true] at hk
 refine wpAnyH_take (ops_next hi) hk.1.1 hk.1.2 hk.2 hQ (Or.inr ⟨hb, rfl⟩) hS ?_
 rw [listed_next]
 exact h
/-- Number i is wanted and only looks. -/
theorem tkI (i : Nat) (v : Value) {oi : Oper} {rest : List Oper} {fuel : Nat} {listed : Array Bool} {a : Act} {w : World} (hi : ops.toList.drop i = oi :: rest)
  (hk : (Region.noSelect ops && Region.free md ops listed i && (Region.ready md ops listed).contains i) = true)
  (hb : Region.wanted oi (yielded ops a.tmps) = true) (hQ : ∀ c a w, Q (.panic c) (a.put oi.dst v) w → Q (.panic c) a w)
  (hy : ∀ w, S w → (execOp a.eval oi).run P w = .ok (.value v) w) (hS : S w)
  (h : wpAnyH P md ops Q S fuel (listed.setIfInBounds i true) (a.put oi.dst v) w) : wpAnyH P md ops Q S (fuel + 1) listed a w := by
 simp only [Bool.and_eq_true] at hk
 exact wpAnyH_take (ops_drop hi) hk.1.1 hk.1.2 hk.2 hQ (Or.inl ⟨hb, hy⟩) hS h
/-- Number i alone may come up: it is run, and S shown anew. -/
theorem runI (i : Nat) {oi : Oper} {rest : List Oper} {fuel : Nat} {listed : Array Bool} {a : Act} {w : World} (hi : ops.toList.drop i = oi :: rest)
  (hk : (Region.ready md ops listed == [i]) = true) (hb : Region.wanted oi (yielded ops a.tmps) = true)
  (h : ∀ K' : Act → World → Prop, Shut (∀ a w, S w → (S w → wpAnyH P md ops Q S fuel (listed.setIfInBounds i true) a w) → K' a w) → Oper.wp P oi a w K' Q) :
  wpAnyH P md ops Q S (fuel + 1) listed a w := by
 rw [beq_iff_eq] at hk
 refine wpAnyH_ready hk (by simp) (AllReadyH.cons (ops_drop hi) (fun K hK => ?_) AllReadyH.nil)
 rw [if_pos hb]
 exact h K hK
/-- The beginning. -/
theorem startF (n : Nat) {id : Nat} {a : Act} {w : World} (hm : P.follows .mixedOrders = true) (hn : ops.size = n) (hS : S w.drew)
  (h : S w.drew → wpAnyH P .any ops Q S n (List.replicate n false).toArray a w.drew) : (Code.region id ops true).wp P Q a w := by
 refine wp_region_held_drew hm hS (fun hH => ?_)
 have := h hH
 rw [← hn] at this
 rwa [← List.toArray_replicate]
end
end Go.Proofs.YtnplmeifhebhhaaGreat
