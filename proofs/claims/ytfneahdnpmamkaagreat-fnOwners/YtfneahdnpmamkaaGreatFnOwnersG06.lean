/-
  Plain facts: a row of records that a slice owns, each with lists of its own in a stretch of blocks of its own. No program is named here. Plain facts: a row of records that is being filled, each record's lists in a stretch of blocks of its own; marks in such a row. No program is named here. Plain facts: a row of structs that a slice owns, c cells each, each with lists of its own in a stretch of blocks of its own. No program is named here.
-/
import Derived.Test.YtfneahdnpmamkaaGreatFnOwnersG05
namespace Go.Proofs.YtfneahdnpmamkaaGreat
open Go.RowKit
set_option linter.unusedVariables false

theorem Iy {B n size : Nat} {e : TypeId} {w w' : World} {v : Value} {xs : List Value} (h : w.ownsRow B e size v n xs) (hb : Below w.heap.size w w') : w'.ownsRow B e size v n xs :=
 World.ownsRow.kept h (Ac hb) (by cases hv : v.ownBlock with | none => exact .inl rfl | some k => exact .inr (by simp))
def RowO (B E : Nat) (er el eb ei : TypeId) (w : World) (v : Value) (rs : List Rec) : Prop :=
 ∃ (xs : List Value) (f g : Nat → Nat), w.ownsRow B er 7 v rs.length xs ∧ (∀ q, v.ownBlock = some q → q < E) ∧
  ∀ i, i < rs.length → B ≤ f i ∧ g i ≤ E ∧ (∀ k, k < i → g k ≤ f i) ∧ (∀ q, v.ownBlock = some q → q < f i ∨ g i ≤ q) ∧
   ∃ vn vt vx vi, (∀ j u, (Ah vn vt vx vi (rs.getD i recZ))[j]? = some u → xs[i * 7 + j]? = some u) ∧ OwnR (f i) (g i) el eb ei w vn vt vx vi (rs.getD i recZ)

theorem RowO.nil (B E : Nat) (er el eb ei : TypeId) (w : World) : RowO B E er el eb ei w (.slice none 0 0) [] :=
 ⟨[], fun _ => 0, fun _ => 0, World.ownsRow_nil _ _ _ _, (fun q hq => by cases hq), fun i hi => absurd hi (by simp)⟩

theorem Hz {vn vt vx vi : Value} {r : Rec} {j : Nat} {u : Value} (h : (Ah vn vt vx vi r)[j]? = some u) : j < 7 := by
 have := (List.getElem?_eq_some_iff.1 h).1
 simpa [Ah] using this

theorem RowO.has {B E : Nat} {er el eb ei : TypeId} {w : World} {v : Value} {rs : List Rec} (h : RowO B E er el eb ei w v rs) : Cl w v rs := by
 obtain ⟨xs, f, g, ho, _, hx⟩ := h
 have ho' := ho
 rcases ho.2 with ⟨rfl, hn⟩ | ⟨b, cap, cur, rfl, hB, hg, hn, hm, hs, ht⟩
 ·exact .inl ⟨rfl, List.eq_nil_of_length_eq_zero hn⟩
 ·refine .inr ⟨b, 0, cap, rfl, VC hg, hn, hm, fun i hi => ?_⟩
  obtain ⟨_, _, _, _, vn, vt, vx, vi, q1, q2⟩ := hx i hi
  refine ⟨vn, vt, vx, vi, fun j u hj => ?_, q2.hasR⟩
  have hj7 := Hz hj
  rw [Nat.zero_add, World.ownsRow.cellAt ho' (i * 7 + j) (by omega)]
  exact q1 j u hj

theorem RowO.form {B E : Nat} {er el eb ei : TypeId} {w : World} {v : Value} {rs : List Rec} (h : RowO B E er el eb ei w v rs) : ∃ a cap, v = .slice a rs.length cap ∧ rs.length ≤ cap ∧ cap ≤ maxLen := h.has.form

theorem RowO.wide {B E B' E' : Nat} {er el eb ei : TypeId} {w : World} {v : Value} {rs : List Rec} (h : RowO B E er el eb ei w v rs) (hB : B' ≤ B) (hE : E ≤ E') : RowO B' E' er el eb ei w v rs := by
 obtain ⟨xs, f, g, ho, hq, hx⟩ := h
 refine ⟨xs, f, g, ?_, fun q e => Nat.lt_of_lt_of_le (hq q e) hE, fun i hi => ?_⟩
 ·refine ⟨ho.1, ?_⟩
  rcases ho.2 with hn | ⟨b, cap, cur, hv, hb, rest⟩
  ·exact .inl hn
  ·exact .inr ⟨b, cap, cur, hv, Nat.le_trans hB hb, rest⟩
 ·obtain ⟨h1, h2, h3⟩ := hx i hi
  exact ⟨Nat.le_trans hB h1, Nat.le_trans h2 hE, h3⟩

theorem Lx {C B D n size : Nat} {e : TypeId} {w w' : World} {v : Value} {xs : List Value} (h : w.ownsRow C e size v n xs) (u : Ap B D w w') (hq : ∀ q, v.ownBlock = some q → q < B ∨ D ≤ q) : w'.ownsRow C e size v n xs := by
 have h' := h
 refine ⟨h.1, ?_⟩
 rcases h.2 with hn | ⟨g, cap, cur, hv, hb, hg, rest⟩
 ·exact .inl hn
 ·refine .inr ⟨g, cap, cur, hv, hb, ?_, rest⟩
  rw [u.block g (VC hg) (hq g (by rw [hv]; rfl))]
  exact hg

theorem RowO.outside {B E C D : Nat} {er el eb ei : TypeId} {w w' : World} {v : Value} {rs : List Rec} (h : RowO B E er el eb ei w v rs) (u : Ap C D w w') (hd : E ≤ C ∨ D ≤ B) : RowO B E er el eb ei w' v rs := by
 obtain ⟨xs, f, g, ho, hq, hx⟩ := h
 refine ⟨xs, f, g, Lx ho u (fun q e => ?_), hq, fun i hi => ?_⟩
 ·have h1 := hq q e
  have h2 := (World.ownsRow.lt ho q e).1
  omega
 ·obtain ⟨h1, h2, h3, h4, vn, vt, vx, vi, q1, q2⟩ := hx i hi
  exact ⟨h1, h2, h3, h4, vn, vt, vx, vi, q1, q2.outside u (by omega)⟩

theorem RowO.below {B E : Nat} {er el eb ei : TypeId} {w w' : World} {v : Value} {rs : List Rec} (h : RowO B E er el eb ei w v rs) (hb : Below w.heap.size w w') : RowO B E er el eb ei w' v rs := by
 obtain ⟨xs, f, g, ho, hq, hx⟩ := h
 refine ⟨xs, f, g, Iy ho hb, hq, fun i hi => ?_⟩
 obtain ⟨h1, h2, h3, h4, vn, vt, vx, vi, q1, q2⟩ := hx i hi
 exact ⟨h1, h2, h3, h4, vn, vt, vx, vi, q1, q2.below hb⟩

theorem OwnR.le {B E : Nat} {el eb ei : TypeId} {w : World} {vn vt vx vi : Value} {r : Rec} (h : OwnR B E el eb ei w vn vt vx vi r) : B ≤ E := by
 obtain ⟨s1, s2, s3, a1, a2, a3, a4, _⟩ := h
 omega

theorem OwnR.grown {B E : Nat} {el eb ei : TypeId} {w w' : World} {vn vt vx vi : Value} {r : Rec} {row : Option Nat} (h : OwnR B E el eb ei w vn vt vx vi r) (hg : w.grownBy w' row) (hr : ∀ q, row = some q → q < B ∨ E ≤ q) : OwnR B E el eb ei w' vn vt vx vi r := by
 cases row with
 | none => exact h.below (Ch hg)
 | some q =>
  refine h.outside (Cx (B := q) (E := q + 1) hg (fun k hk => by simp at hk; omega)) ?_
  have := hr q rfl
  omega

theorem RowO.snoc {B E C D : Nat} {er el eb ei : TypeId} {W w' : World} {v v' : Value} {rs : List Rec} {r : Rec} {vn vt vx vi : Value} (h : RowO B E er el eb ei W v rs) (hE : E ≤ C) (hD : D ≤ W.heap.size)
  (hr : OwnR C D el eb ei W vn vt vx vi r) (hB : B ≤ C) (hg : W.grownBy w' v.ownBlock) (hw : v'.ownBlock = v.ownBlock ∨ v'.ownBlock = some W.heap.size)
  (ho : ∀ xs, W.ownsRow B er 7 v rs.length xs → w'.ownsRow B er 7 v' (rs.length + 1) (xs ++ Ah vn vt vx vi r)) : RowO B w'.heap.size er el eb ei w' v' (rs ++ [r]) := by
 obtain ⟨xs, f, g, h0, hq, hx⟩ := h
 have ho' := ho xs h0
 have hCD := hr.le
 have hlen : xs.length = rs.length * 7 := h0.1
 have hz := hg.size
 have hvq : ∀ q, v.ownBlock = some q → q < C ∨ D ≤ q := fun q e => by have := hq q e; omega
 refine ⟨xs ++ Ah vn vt vx vi r, fun i => if i < rs.length then f i else C, fun i => if i < rs.length then g i else D, by rw [List.length_append]; exact ho', fun q e => (World.ownsRow.lt ho' q e).2, fun i hi => ?_⟩
 rw [List.length_append] at hi
 simp only [List.length_cons, List.length_nil] at hi
 by_cases hlt : i < rs.length
 ·obtain ⟨h1, h2, h3, h4, un, ut, ux, ui, q1, q2⟩ := hx i hlt
  simp only [hlt, if_true]
  have e1 : (rs ++ [r]).getD i recZ = rs.getD i recZ := by rw [List.getD_eq_getElem?_getD, List.getElem?_append_left hlt, ← List.getD_eq_getElem?_getD]
  rw [e1]
  refine ⟨h1, by omega, fun k hk => ?_, fun q e => ?_, un, ut, ux, ui, fun j u hj => ?_, q2.grown hg h4⟩
  ·rw [if_pos (by omega)]
   exact h3 k hk
  ·rcases hw with hw | hw
   ·rw [hw] at e
    exact h4 q e
   ·rw [hw] at e
    injection e with e
    omega
  ·have hj7 := Hz hj
   rw [List.getElem?_append_left (by omega)]
   exact q1 j u hj
 ·obtain rfl : i = rs.length := by omega
  simp only [Nat.lt_irrefl, if_false]
  have e1 : (rs ++ [r]).getD rs.length recZ = r := by rw [List.getD_eq_getElem?_getD]; simp
  rw [e1]
  refine ⟨hB, by omega, fun k hk => ?_, fun q e => ?_, vn, vt, vx, vi, fun j u hj => ?_, hr.grown hg hvq⟩
  ·rw [if_pos hk]
   have := (hx k hk).2.1
   omega
  ·rcases hw with hw | hw
   ·rw [hw] at e
    exact hvq q e
   ·rw [hw] at e
    injection e with e
    omega
  ·rw [List.getElem?_append_right (by omega), hlen, Nat.add_sub_cancel_left]
   exact hj

section
variable {P : Program} {w : World}
theorem Tx {t ty e : TypeId} (ht : P.underlying t = some (.slice e)) {zs : Array Value} (hinfo : (P.info? e).map (fun i => (i.zero, i.size, i.bytes)) = some (some (.agg zs), 7, 120)) (hzs : zs.size = 7)
  {base : Nat} {v : Value} {n : Nat} {xs : List Value} (hown : w.ownsRow base e 7 v n xs) {ad : Addr} {m cap : Nat} {news : List Value} (hl : news.length = m * 7) (hc : ∀ j u, news[j]? = some u → w.cell? (ad.add j) = some u) (h1 : ∀ u ∈ news, u.oneCell' = true)
  (hm : 0 < m) (hlen : n + m ≤ 1000000) {v' : Value} {w' : World}
  (hrun : (Builtin.append_ #[t, t] ty #[v, .slice (some ad) m cap]).run P w = .ok v' w') : v'.ownBlock = v.ownBlock ∨ v'.ownBlock = some w.heap.size := by
 obtain ⟨i0, hi, hz0, hz1, hz2⟩ := info_parts hinfo
 rcases hown.2 with ⟨rfl, h0⟩ | ⟨g, cp, cur, rfl, hbg, hg, hnc, hcm, hcs, htake⟩
 ·rw [run_append_nil (P := P) w t ty e i0 (.agg zs) ht hi hz0 ad m cap news (by rw [hz1]; exact hl) hc hm (by omega) (by rw [hz2]; omega)] at hrun
  simp only [Result.ok.injEq] at hrun
  right; rw [← hrun.1]; rfl
 ·by_cases hroom : n + m ≤ cp
  ·rw [run_append_room (P := P) w t ty e i0 ht hi g n cp cur hg ad m cap news (by rw [hz1]; exact hl) hc h1 hroom (by rw [hz1, hcs, hl]; omega)] at hrun
   simp only [Result.ok.injEq] at hrun
   left; rw [← hrun.1]; rfl
  ·have holds : ∀ j u, xs[j]? = some u → w.cell? ((⟨g, 0, none⟩ : Addr).add j) = some u := World.ownsRow.cells hown (g := g) rfl
   rw [run_append_grow (P := P) w t ty e i0 (.agg zs) ht hi hz0 ⟨g, 0, none⟩ n cp xs (by rw [hz1]; exact hown.1) holds ad m cap news (by rw [hz1]; exact hl) hc (by omega) (by omega) (growslice_fits (by omega) (by rw [hz2]; omega))] at hrun
   simp only [Result.ok.injEq] at hrun
   right; rw [← hrun.1]; rfl

theorem D5 {t ty e : TypeId} (ht : P.underlying t = some (.slice e)) {zs : Array Value} (hinfo : (P.info? e).map (fun i => (i.zero, i.size, i.bytes)) = some (some (.agg zs), 7, 120)) (hzs : zs.size = 7)
  {base : Nat} {v : Value} {n : Nat} {xs : List Value} (hown : w.ownsRow base e 7 v n xs) {g : Nat} {cs : List Value} (hg : w.heap[g]? = some (.cells cs.toArray e)) (hcl : cs.length = 7) (h1 : ∀ u ∈ cs, u.oneCell' = true) (hlen : n ≤ 1000) (hbase : base ≤ w.heap.size) :
  ∃ v' w', (Builtin.append_ #[t, t] ty #[v, .slice (some ⟨g, 0, none⟩) 1 1]).run P w = .ok v' w' ∧ w'.ownsRow base e 7 v' (n + 1) (xs ++ cs) ∧ w.grownBy w' v.ownBlock ∧ (v'.ownBlock = v.ownBlock ∨ v'.ownBlock = some w.heap.size) := by
 obtain ⟨i0, hi, hz0, hz1, hz2⟩ := info_parts hinfo
 have hc : ∀ j u, cs[j]? = some u → w.cell? ((⟨g, 0, none⟩ : Addr).add j) = some u := fun j u hj => by
  rw [Addr.add_lit, Nat.zero_add, VE hg]
  simpa using hj
 obtain ⟨v', w', h2, h3, h4, _⟩ := run_append_own (P := P) w base t ty e i0 (.agg zs) 7 120 ht hi hz0 hz1 hz2 hzs (by decide) v n xs hown ⟨g, 0, none⟩ 1 1 cs (by rw [hcl]) hc h1 (by unfold maxLen; omega) (by omega) hbase
 exact ⟨v', w', h2, h3, h4, Tx ht hinfo hzs hown (by rw [hcl]) hc h1 (by decide) (by omega) h2⟩

theorem E0 {ops : Array Oper} {o : Oper} {a : Act} {K : Act → World → Prop} {Q : Exit → Act → World → Prop} {E : Prop} (hgd : o.guard = none) (s x : Operand) (t e : TypeId)
  (ho : o.op = .call { callee := .builtin .append, args := #[s, x], argTypes := #[t, t] }) (ht : P.underlying t = some (.slice e)) (zs : Array Value)
  (hinfo : (P.info? e).map (fun i => (i.zero, i.size, i.bytes)) = some (some (.agg zs), 7, 120)) (hzs : zs.size = 7)
  (base : Nat) (v : Value) (n : Nat) (hs : a.eval s = v) (g : Nat) (cs : List Value) (hx : a.eval x = .slice (some ⟨g, 0, none⟩) 1 1) (hown : ∃ xs, w.ownsRow base e 7 v n xs)
  (hg : w.heap[g]? = some (.cells cs.toArray e)) (hcl : cs.length = 7) (h1 : ∀ u ∈ cs, u.oneCell' = true) (hlen : n ≤ 1000) (hbase : base ≤ w.heap.size)
  (h : ∀ v' w', (∀ xs, w.ownsRow base e 7 v n xs → w'.ownsRow base e 7 v' (n + 1) (xs ++ cs)) → w.grownBy w' v.ownBlock → (v'.ownBlock = v.ownBlock ∨ v'.ownBlock = some w.heap.size) → K (a.put o.dst v') w') : if Region.wanted o (yielded ops a.tmps) = true then Oper.wp P o a w K Q else E := by
 have hw : Region.wanted o (yielded ops a.tmps) = true := by simp [Region.wanted, hgd]
 rw [if_pos hw]
 obtain ⟨xs0, hx0⟩ := hown
 obtain ⟨v', w', hr', h2, h3, h4⟩ := D5 (P := P) (ty := o.type) ht hinfo hzs hx0 hg hcl h1 hlen hbase
 have hall : ∀ xs, w.ownsRow base e 7 v n xs → w'.ownsRow base e 7 v' (n + 1) (xs ++ cs) := fun xs hxs => by
  obtain ⟨v2, w2, hr2, h22, _, _⟩ := D5 (P := P) (ty := o.type) ht hinfo hzs hxs hg hcl h1 hlen hbase
  rw [hr'] at hr2
  simp only [Result.ok.injEq] at hr2
  rw [hr2.1, hr2.2]
  exact h22
 unfold Oper.wp execOp
 simp only [ho, resolve, invoke, builtin, Sem.run_bind, Sem.run_pure, Result.andThen_ok, List.map_toArray, List.map_cons, List.map_nil, hs, hx, hr']
 exact h v' w' hall h3 h4
theorem Ss {ops : Array Oper} {rest : List Oper} {o : Oper} {a : Act} {Q : Exit → Act → World → Prop} (hgd : o.guard = none) (s x : Operand) (t e : TypeId)
  (ho : o.op = .call { callee := .builtin .append, args := #[s, x], argTypes := #[t, t] }) (ht : P.underlying t = some (.slice e)) (zs : Array Value)
  (hinfo : (P.info? e).map (fun i => (i.zero, i.size, i.bytes)) = some (some (.agg zs), 7, 120)) (hzs : zs.size = 7)
  (base : Nat) (v : Value) (n : Nat) (hs : a.eval s = v) (g : Nat) (cs : List Value) (hx : a.eval x = .slice (some ⟨g, 0, none⟩) 1 1) (hown : ∃ xs, w.ownsRow base e 7 v n xs)
  (hg : w.heap[g]? = some (.cells cs.toArray e)) (hcl : cs.length = 7) (h1 : ∀ u ∈ cs, u.oneCell' = true) (hlen : n ≤ 1000) (hbase : base ≤ w.heap.size)
  (h : ∀ v' w', (∀ xs, w.ownsRow base e 7 v n xs → w'.ownsRow base e 7 v' (n + 1) (xs ++ cs)) → w.grownBy w' v.ownBlock → (v'.ownBlock = v.ownBlock ∨ v'.ownBlock = some w.heap.size) → wpList P ops Q rest (a.put o.dst v') w') : wpList P ops Q (o :: rest) a w := by
 refine wpList_plain hgd fun _ hK => ?_
 obtain ⟨xs0, hx0⟩ := hown
 obtain ⟨v', w', hr', h2, h3, h4⟩ := D5 (P := P) (ty := o.type) ht hinfo hzs hx0 hg hcl h1 hlen hbase
 have hall : ∀ xs, w.ownsRow base e 7 v n xs → w'.ownsRow base e 7 v' (n + 1) (xs ++ cs) := fun xs hxs => by
  obtain ⟨v2, w2, hr2, h22, _, _⟩ := D5 (P := P) (ty := o.type) ht hinfo hzs hxs hg hcl h1 hlen hbase
  rw [hr'] at hr2
  simp only [Result.ok.injEq] at hr2
  rw [hr2.1, hr2.2]
  exact h22
 unfold Oper.wp execOp
 simp only [ho, resolve, invoke, builtin, Sem.run_bind, Sem.run_pure, Result.andThen_ok, List.map_toArray, List.map_cons, List.map_nil, hs, hx, hr']
 exact hK _ _ (h v' w' hall h3 h4)
end
theorem Jg {b : Nat} {t : TypeId} : ∀ (vs : List Value) (o : Nat) {w : World} {c : Array Value}, w.heap[b]? = some (.cells c t) → ∃ c', (w.setCells b o vs).heap[b]? = some (.cells c' t) ∧ c'.size = c.size
 | [], _, _, c, h => ⟨c, h, rfl⟩
 | v :: vs, o, w, c, h => by
  obtain ⟨c', h1, h2⟩ := Jg vs (o + 1) (UV h o v)
  exact ⟨c', h1, by rw [h2]; simp⟩

def E6 (g n k : Nat) (er el eb ei : TypeId) (w : World) (rs : List Rec) : Prop :=
 ∃ (cur : Array Value) (f : Nat → Nat), w.heap[g]? = some (.cells cur er) ∧ cur.size = n * 7 ∧ g + 1 ≤ f 0 ∧ f k ≤ w.heap.size ∧
  ∀ i, i < k → f i ≤ f (i + 1) ∧ ∃ vn vt vx vi, w.rangeAt g (i * 7) (Ah vn vt vx vi (rs.getD i recZ)) ∧ OwnR (f i) (f (i + 1)) el eb ei w vn vt vx vi (rs.getD i recZ)

theorem E6.lt {g n k : Nat} {er el eb ei : TypeId} {w : World} {rs : List Rec} (h : E6 g n k er el eb ei w rs) : g < w.heap.size := by
 obtain ⟨cur, f, h1, _⟩ := h
 exact VC h1
theorem E6.here {g n k : Nat} {er el eb ei : TypeId} {w : World} {rs : List Rec} (h : E6 g n k er el eb ei w rs) (hk : k < n) : w.there g (k * 7) 7 := by
 obtain ⟨cur, f, h1, h2, _⟩ := h
 intro j hj
 refine ⟨?_, VG h1 _⟩
 rw [VE h1, Array.getElem?_eq_getElem (by omega)]
 rfl
theorem E6.below {g n k : Nat} {er el eb ei : TypeId} {w w' : World} {rs : List Rec} (h : E6 g n k er el eb ei w rs) (hb : Below w.heap.size w w') : E6 g n k er el eb ei w' rs := by
 obtain ⟨cur, f, h1, h2, h3, h4, h5⟩ := h
 refine ⟨cur, f, UE hb h1, h2, h3, Nat.le_trans h4 hb.size, fun i hi => ?_⟩
 obtain ⟨q0, vn, vt, vx, vi, q1, q2⟩ := h5 i hi
 exact ⟨q0, vn, vt, vx, vi, UW q1 (VC h1) hb, q2.below hb⟩
theorem E6.low {g n k : Nat} {er el eb ei : TypeId} {w : World} {rs : List Rec} {f : Nat → Nat} (h3 : g + 1 ≤ f 0) (h5 : ∀ i, i < k → f i ≤ f (i + 1)) : ∀ i, i ≤ k → g + 1 ≤ f i
 | 0, _ => h3
 | i + 1, hi => Nat.le_trans (E6.low (n := n) (er := er) (el := el) (eb := eb) (ei := ei) (w := w) (rs := rs) h3 h5 i (by omega)) (h5 i (by omega))
theorem E6.step {g n k : Nat} {er el eb ei : TypeId} {w w1 : World} {rs : List Rec} (h : E6 g n k er el eb ei w rs) (hb : Below w.heap.size w w1) (hk : k < n) {vn vt vx vi : Value} (ho : OwnR w.heap.size w1.heap.size el eb ei w1 vn vt vx vi (rs.getD k recZ)) :
  E6 g n (k + 1) er el eb ei (w1.setCells g (k * 7) (Ah vn vt vx vi (rs.getD k recZ))) rs := by
 have ht := (h.below hb).here hk
 obtain ⟨cur, f, h1, h2, h3, h4, h5⟩ := h
 have u := Bu g (Ah vn vt vx vi (rs.getD k recZ)) (k * 7) w1
 obtain ⟨c', e1, e2⟩ := Jg (Ah vn vt vx vi (rs.getD k recZ)) (k * 7) (UE hb h1)
 have hg := VC h1
 have hz := hb.size
 have hu := u.size
 have hlow := E6.low (n := n) (er := er) (el := el) (eb := eb) (ei := ei) (w := w) (rs := rs) h3 (fun i hi => (h5 i hi).1)
 refine ⟨c', fun i => if i < k then f i else if i = k then w.heap.size else w1.heap.size, e1, by rw [e2, h2], ?_, ?_, fun i hi => ?_⟩
 ·by_cases e : 0 < k
  ·simp only [e, if_true]; exact h3
  ·have : k = 0 := by omega
   subst this
   simp only [Nat.lt_irrefl, if_false, if_true]
   omega
 ·simp only [show ¬ k + 1 < k by omega, show ¬ k + 1 = k by omega, if_false]
  exact hu
 ·by_cases e : i = k
  ·subst e
   simp only [Nat.lt_irrefl, if_false, if_true, show ¬ i + 1 < i by omega, show ¬ i + 1 = i by omega]
   exact ⟨hz, vn, vt, vx, vi, World.rangeAt_setCells_same _ _ _ _ ht, ho.outside u (.inr (by omega))⟩
  ·obtain ⟨q0, xn, xt, xx, xi, q1, q2⟩ := h5 i (by omega)
   have hli := hlow i (by omega)
   have q1' := World.rangeAt_setCells_apart (UW q1 hg hb) g (k * 7) (Ah vn vt vx vi (rs.getD k recZ)) (.inr (.inl (by show i * 7 + 7 ≤ k * 7; omega)))
   simp only [show i < k by omega, if_true]
   by_cases e' : i + 1 < k
   ·simp only [e', if_true]
    exact ⟨q0, xn, xt, xx, xi, q1', (q2.below hb).outside u (.inr (by omega))⟩
   ·have e2 : i + 1 = k := by omega
    simp only [e2, Nat.lt_irrefl, if_false, if_true]
    rw [e2] at q0 q2
    exact ⟨by omega, xn, xt, xx, xi, q1', (((q2.below hb).outside u (.inr (by omega)))).wide (Nat.le_refl _) h4⟩
theorem E6.row {g n : Nat} {er el eb ei : TypeId} {w : World} {rs : List Rec} (h : E6 g n n er el eb ei w rs) (hn : rs.length = n) (hm : n ≤ maxLen) : RowO g w.heap.size er el eb ei w (.slice (some ⟨g, 0, none⟩) n n) rs := by
 subst hn
 obtain ⟨cur, f, h1, h2, h3, h4, h5⟩ := h
 have hlow := E6.low (n := rs.length) (er := er) (el := el) (eb := eb) (ei := ei) (w := w) (rs := rs) h3 (fun i hi => (h5 i hi).1)
 have hup : ∀ d i, i + d = rs.length → f i ≤ f rs.length := by
  intro d
  induction d with
  | zero => intro i hi; rw [show i = rs.length by omega]; exact Nat.le_refl _
  | succ d ih => intro i hi; exact Nat.le_trans (h5 i (by omega)).1 (ih (i + 1) (by omega))
 have hmono : ∀ d i, i + d ≤ rs.length → f i ≤ f (i + d) := by
  intro d
  induction d with
  | zero => intro i hi; exact Nat.le_refl _
  | succ d ih => intro i hi; exact Nat.le_trans (ih i (by omega)) (h5 (i + d) (by omega)).1
 refine ⟨cur.toList, f, fun i => f (i + 1), ⟨by simpa using h2, .inr ⟨g, rs.length, cur, rfl, Nat.le_refl _, h1, Nat.le_refl _, hm, h2, List.take_of_length_le (by rw [Array.length_toList, h2]; exact Nat.le_refl _)⟩⟩, fun q e => ?_, fun i hi => ?_⟩
 ·injection e with e
  subst e
  exact VC h1
 ·obtain ⟨q0, vn, vt, vx, vi, q1, q2⟩ := h5 i hi
  have := hlow i (by omega)
  refine ⟨by omega, Nat.le_trans (hup (rs.length - (i + 1)) (i + 1) (by omega)) h4, fun k hk => ?_, fun q e => ?_, vn, vt, vx, vi, fun j u hj => ?_, q2⟩
  ·have := hmono (i - (k + 1)) (k + 1) (by omega)
   rwa [show k + 1 + (i - (k + 1)) = i by omega] at this
  ·injection e with e
   have e' : g = q := e
   omega
  ·have := q1 j u hj
   rw [VE h1] at this
   simpa using this

/-! Marks in a row. -/
theorem RowO.mark {B E : Nat} {er el eb ei : TypeId} {w w' : World} {v : Value} {rs : List Rec} {m : Nat} {r' : Rec} {f g : Nat → Nat} {xs xs' : List Value} {vn vt vx vi : Value} (hm : m < rs.length)
  (h0 : ∀ q, v.ownBlock = some q → q < E) (hx : ∀ i, i < rs.length → B ≤ f i ∧ g i ≤ E ∧ (∀ k, k < i → g k ≤ f i) ∧ (∀ q, v.ownBlock = some q → q < f i ∨ g i ≤ q) ∧
   ∃ vn vt vx vi, (∀ j u, (Ah vn vt vx vi (rs.getD i recZ))[j]? = some u → xs[i * 7 + j]? = some u) ∧ OwnR (f i) (g i) el eb ei w vn vt vx vi (rs.getD i recZ))
  (ho : w'.ownsRow B er 7 v rs.length xs') (hxs : ∀ i j, i ≠ m → j < 7 → xs'[i * 7 + j]? = xs[i * 7 + j]?) (hr : ∀ j u, (Ah vn vt vx vi r')[j]? = some u → xs'[m * 7 + j]? = some u) (hr2 : OwnR (f m) (g m) el eb ei w' vn vt vx vi r')
  (hu : ∀ i, i < rs.length → i ≠ m → ∀ un ut ux ui, OwnR (f i) (g i) el eb ei w un ut ux ui (rs.getD i recZ) → OwnR (f i) (g i) el eb ei w' un ut ux ui (rs.getD i recZ)) : RowO B E er el eb ei w' v (rs.set m r') := by
 refine ⟨xs', f, g, by rw [List.length_set]; exact ho, h0, fun i hi => ?_⟩
 rw [List.length_set] at hi
 obtain ⟨h1, h2, h3, h4, un, ut, ux, ui, q1, q2⟩ := hx i hi
 by_cases e : i = m
 ·subst e
  have e1 : (rs.set i r').getD i recZ = r' := by simp [List.getD, hm]
  rw [e1]
  exact ⟨h1, h2, h3, h4, vn, vt, vx, vi, hr, hr2⟩
 ·have e1 : (rs.set m r').getD i recZ = rs.getD i recZ := by simp [List.getD, List.getElem?_set_ne (Ne.symm e)]
  rw [e1]
  exact ⟨h1, h2, h3, h4, un, ut, ux, ui, fun j u hj => by rw [hxs i j e (Hz hj)]; exact q1 j u hj, hu i hi e _ _ _ _ q2⟩
theorem Nk {i n j c : Nat} (hi : i < n) (hj : j < c) : i * c + j < n * c := by
 have := Nat.mul_le_mul_right c (show i + 1 ≤ n from hi)
 rw [Nat.add_mul, Nat.one_mul] at this
 omega
theorem idx_le {i k c : Nat} (hi : i < k) : i * c + c ≤ k * c := by
 have := Nat.mul_le_mul_right c (show i + 1 ≤ k from hi)
 rwa [Nat.add_mul, Nat.one_mul] at this

def RowX {α : Type} (c : Nat) (O : Nat → Nat → World → List Value → α → Prop) (d : α) (B E : Nat) (e : TypeId) (w : World) (v : Value) (xs : List α) : Prop :=
 ∃ (cs : List Value) (f g : Nat → Nat), w.ownsRow B e c v xs.length cs ∧ (∀ q, v.ownBlock = some q → q < E) ∧
  ∀ i, i < xs.length → B ≤ f i ∧ g i ≤ E ∧ (∀ k, k < i → g k ≤ f i) ∧ (∀ q, v.ownBlock = some q → q < f i ∨ g i ≤ q) ∧
   ∃ vs, (∀ j u, vs[j]? = some u → cs[i * c + j]? = some u) ∧ O (f i) (g i) w vs (xs.getD i d)
section
variable {α : Type} {c : Nat} {O : Nat → Nat → World → List Value → α → Prop} {d : α} {B E : Nat} {e : TypeId} {w w' : World} {v : Value} {xs : List α}
theorem RowX.nil (w : World) : RowX c O d B E e w (.slice none 0 0) [] :=
 ⟨[], fun _ => 0, fun _ => 0, World.ownsRow_nil _ _ _ _, (fun q hq => by cases hq), fun i hi => absurd hi (by simp)⟩
theorem RowX.has {H : World → List Value → α → Prop} (hO : E7 c O) (hE : ∀ {B e : Nat} {w : World} {vs : List Value} {x : α}, O B e w vs x → H w vs x) (h : RowX c O d B E e w v xs) : HasG c H d w v xs := by
 obtain ⟨cs, f, g, ho, _, hx⟩ := h
 have ho' := ho
 rcases ho.2 with ⟨rfl, hn⟩ | ⟨b, cap, cur, rfl, hB, hg, hn, hm, hs, ht⟩
 ·exact .inl ⟨rfl, List.eq_nil_of_length_eq_zero hn⟩
 ·refine .inr ⟨b, 0, cap, rfl, VC hg, hn, hm, fun i hi => ?_⟩
  obtain ⟨_, _, _, _, vs, q1, q2⟩ := hx i hi
  refine ⟨vs, fun j u hj => ?_, hE q2⟩
  have hjc : j < c := by rw [← hO.cells q2]; exact (List.getElem?_eq_some_iff.1 hj).1
  rw [Nat.zero_add, World.ownsRow.cellAt ho' (i * c + j) (Nk hi hjc)]
  exact q1 j u hj
theorem RowX.form (h : RowX c O d B E e w v xs) : ∃ a cap, v = .slice a xs.length cap ∧ xs.length ≤ cap ∧ cap ≤ maxLen := by
 obtain ⟨cs, f, g, ho, _, hx⟩ := h
 rcases ho.2 with ⟨rfl, hn⟩ | ⟨b, cap, cur, rfl, hB, hg, hn, hm, hs, ht⟩
 ·have := List.eq_nil_of_length_eq_zero hn
  subst this
  exact ⟨none, 0, rfl, Nat.le_refl _, Nat.zero_le _⟩
 ·exact ⟨_, cap, rfl, hn, hm⟩
theorem RowX.wide {B' E' : Nat} (h : RowX c O d B E e w v xs) (hB : B' ≤ B) (hE : E ≤ E') : RowX c O d B' E' e w v xs := by
 obtain ⟨cs, f, g, ho, hq, hx⟩ := h
 refine ⟨cs, f, g, ?_, fun q e => Nat.lt_of_lt_of_le (hq q e) hE, fun i hi => ?_⟩
 ·refine ⟨ho.1, ?_⟩
  rcases ho.2 with hn | ⟨b, cap, cur, hv, hb, rest⟩
  ·exact .inl hn
  ·exact .inr ⟨b, cap, cur, hv, Nat.le_trans hB hb, rest⟩
 ·obtain ⟨h1, h2, h3⟩ := hx i hi
  exact ⟨Nat.le_trans hB h1, Nat.le_trans h2 hE, h3⟩
theorem RowX.outside (hO : E7 c O) {C D : Nat} (h : RowX c O d B E e w v xs) (u : Ap C D w w') (hd : E ≤ C ∨ D ≤ B) : RowX c O d B E e w' v xs := by
 obtain ⟨cs, f, g, ho, hq, hx⟩ := h
 refine ⟨cs, f, g, Lx ho u (fun q e => ?_), hq, fun i hi => ?_⟩
 ·have h1 := hq q e
  have h2 := (World.ownsRow.lt ho q e).1
  omega
 ·obtain ⟨h1, h2, h3, h4, vs, q1, q2⟩ := hx i hi
  exact ⟨h1, h2, h3, h4, vs, q1, hO.outside q2 u (by omega)⟩
theorem RowX.below (hO : E7 c O) (h : RowX c O d B E e w v xs) (hb : Below w.heap.size w w') : RowX c O d B E e w' v xs := by
 obtain ⟨cs, f, g, ho, hq, hx⟩ := h
 refine ⟨cs, f, g, Iy ho hb, hq, fun i hi => ?_⟩
 obtain ⟨h1, h2, h3, h4, vs, q1, q2⟩ := hx i hi
 exact ⟨h1, h2, h3, h4, vs, q1, hO.below q2 hb⟩
theorem RowX.mark (hO : E7 c O) {m : Nat} {x' : α} {f g : Nat → Nat} {cs cs' vs' : List Value} (hm : m < xs.length)
  (h0 : ∀ q, v.ownBlock = some q → q < E) (hx : ∀ i, i < xs.length → B ≤ f i ∧ g i ≤ E ∧ (∀ k, k < i → g k ≤ f i) ∧ (∀ q, v.ownBlock = some q → q < f i ∨ g i ≤ q) ∧
   ∃ vs, (∀ j u, vs[j]? = some u → cs[i * c + j]? = some u) ∧ O (f i) (g i) w vs (xs.getD i d))
  (ho : w'.ownsRow B e c v xs.length cs') (hxs : ∀ i j, i ≠ m → j < c → cs'[i * c + j]? = cs[i * c + j]?) (hr : ∀ j u, vs'[j]? = some u → cs'[m * c + j]? = some u) (hr2 : O (f m) (g m) w' vs' x')
  (hu : ∀ i, i < xs.length → i ≠ m → ∀ vs, O (f i) (g i) w vs (xs.getD i d) → O (f i) (g i) w' vs (xs.getD i d)) : RowX c O d B E e w' v (xs.set m x') := by
 refine ⟨cs', f, g, by rw [List.length_set]; exact ho, h0, fun i hi => ?_⟩
 rw [List.length_set] at hi
 obtain ⟨h1, h2, h3, h4, us, q1, q2⟩ := hx i hi
 by_cases e : i = m
 ·subst e
  have e1 : (xs.set i x').getD i d = x' := by simp [List.getD, hm]
  rw [e1]
  exact ⟨h1, h2, h3, h4, vs', hr, hr2⟩
 ·have e1 : (xs.set m x').getD i d = xs.getD i d := by simp [List.getD, List.getElem?_set_ne (Ne.symm e)]
  rw [e1]
  exact ⟨h1, h2, h3, h4, us, fun j u hj => by rw [hxs i j e (by rw [← hO.cells q2]; exact (List.getElem?_eq_some_iff.1 hj).1)]; exact q1 j u hj, hu i hi e _ q2⟩
end
def Hn {α : Type} (c : Nat) (O : Nat → Nat → World → List Value → α → Prop) (d : α) (g n k : Nat) (e : TypeId) (w : World) (xs : List α) : Prop :=
 ∃ (cur : Array Value) (f : Nat → Nat), w.heap[g]? = some (.cells cur e) ∧ cur.size = n * c ∧ g + 1 ≤ f 0 ∧ f k ≤ w.heap.size ∧
  ∀ i, i < k → f i ≤ f (i + 1) ∧ ∃ vs, w.rangeAt g (i * c) vs ∧ O (f i) (f (i + 1)) w vs (xs.getD i d)
theorem Ob {g k : Nat} {f : Nat → Nat} (h3 : g + 1 ≤ f 0) (h5 : ∀ i, i < k → f i ≤ f (i + 1)) : ∀ i, i ≤ k → g + 1 ≤ f i
 | 0, _ => h3
 | i + 1, hi => Nat.le_trans (Ob h3 h5 i (by omega)) (h5 i (by omega))
section
variable {α : Type} {c : Nat} {O : Nat → Nat → World → List Value → α → Prop} {d : α} {g n k : Nat} {e : TypeId} {w w' w1 : World} {xs : List α}
theorem Hn.lt (h : Hn c O d g n k e w xs) : g < w.heap.size := by
 obtain ⟨cur, f, h1, _⟩ := h
 exact VC h1
theorem Hn.here (h : Hn c O d g n k e w xs) (hk : k < n) : w.there g (k * c) c := by
 obtain ⟨cur, f, h1, h2, _⟩ := h
 intro j hj
 refine ⟨?_, VG h1 _⟩
 have := Nk hk hj
 rw [VE h1, Array.getElem?_eq_getElem (by omega)]
 rfl
theorem Hn.below (hO : E7 c O) (h : Hn c O d g n k e w xs) (hb : Below w.heap.size w w') : Hn c O d g n k e w' xs := by
 obtain ⟨cur, f, h1, h2, h3, h4, h5⟩ := h
 refine ⟨cur, f, UE hb h1, h2, h3, Nat.le_trans h4 hb.size, fun i hi => ?_⟩
 obtain ⟨q0, vs, q1, q2⟩ := h5 i hi
 exact ⟨q0, vs, UW q1 (VC h1) hb, hO.below q2 hb⟩
theorem Hn.step (hO : E7 c O) (h : Hn c O d g n k e w xs) (hb : Below w.heap.size w w1) (hk : k < n) {vs : List Value} (ho : O w.heap.size w1.heap.size w1 vs (xs.getD k d)) :
  Hn c O d g n (k + 1) e (w1.setCells g (k * c) vs) xs := by
 have ht := (h.below hO hb).here hk
 have hcl := hO.cells ho
 obtain ⟨cur, f, h1, h2, h3, h4, h5⟩ := h
 have u := Bu g vs (k * c) w1
 obtain ⟨c', e1, e2⟩ := Jg vs (k * c) (UE hb h1)
 have hg := VC h1
 have hz := hb.size
 have hu := u.size
 have hlow := Ob h3 (fun i hi => (h5 i hi).1)
 refine ⟨c', fun i => if i < k then f i else if i = k then w.heap.size else w1.heap.size, e1, by rw [e2, h2], ?_, ?_, fun i hi => ?_⟩
 ·by_cases e : 0 < k
  ·simp only [e, if_true]; exact h3
  ·have : k = 0 := by omega
   subst this
   simp only [Nat.lt_irrefl, if_false, if_true]
   omega
 ·simp only [show ¬ k + 1 < k by omega, show ¬ k + 1 = k by omega, if_false]
  exact hu
 ·by_cases e : i = k
  ·subst e
   simp only [Nat.lt_irrefl, if_false, if_true, show ¬ i + 1 < i by omega, show ¬ i + 1 = i by omega]
   exact ⟨hz, vs, World.rangeAt_setCells_same _ _ _ _ (by rw [hcl]; exact ht), hO.outside ho u (.inr (by omega))⟩
  ·obtain ⟨q0, us, q1, q2⟩ := h5 i (by omega)
   have hli := hlow i (by omega)
   have q1' := World.rangeAt_setCells_apart (UW q1 hg hb) g (k * c) vs (.inr (.inl (by rw [hO.cells q2]; exact idx_le (by omega))))
   simp only [show i < k by omega, if_true]
   by_cases e' : i + 1 < k
   ·simp only [e', if_true]
    exact ⟨q0, us, q1', hO.outside (hO.below q2 hb) u (.inr (by omega))⟩
   ·have e2 : i + 1 = k := by omega
    simp only [e2, Nat.lt_irrefl, if_false, if_true]
    rw [e2] at q0 q2
    exact ⟨by omega, us, q1', hO.wide (hO.outside (hO.below q2 hb) u (.inr (by omega))) (Nat.le_refl _) h4⟩
theorem Hn.row (hO : E7 c O) (h : Hn c O d g n n e w xs) (hn : xs.length = n) (hm : n ≤ maxLen) : RowX c O d g w.heap.size e w (.slice (some ⟨g, 0, none⟩) n n) xs := by
 subst hn
 obtain ⟨cur, f, h1, h2, h3, h4, h5⟩ := h
 have hlow := Ob h3 (fun i hi => (h5 i hi).1)
 have hup : ∀ d i, i + d = xs.length → f i ≤ f xs.length := by
  intro d
  induction d with
  | zero => intro i hi; rw [show i = xs.length by omega]; exact Nat.le_refl _
  | succ d ih => intro i hi; exact Nat.le_trans (h5 i (by omega)).1 (ih (i + 1) (by omega))
 have hmono : ∀ d i, i + d ≤ xs.length → f i ≤ f (i + d) := by
  intro d
  induction d with
  | zero => intro i hi; exact Nat.le_refl _
  | succ d ih => intro i hi; exact Nat.le_trans (ih i (by omega)) (h5 (i + d) (by omega)).1
 refine ⟨cur.toList, f, fun i => f (i + 1), ⟨by simpa using h2, .inr ⟨g, xs.length, cur, rfl, Nat.le_refl _, h1, Nat.le_refl _, hm, h2, List.take_of_length_le (by rw [Array.length_toList, h2]; exact Nat.le_refl _)⟩⟩, fun q e => ?_, fun i hi => ?_⟩
 ·injection e with e
  subst e
  exact VC h1
 ·obtain ⟨q0, vs, q1, q2⟩ := h5 i hi
  have := hlow i (by omega)
  refine ⟨by omega, Nat.le_trans (hup (xs.length - (i + 1)) (i + 1) (by omega)) h4, fun k hk => ?_, fun q e => ?_, vs, fun j u hj => ?_, q2⟩
  ·have := hmono (i - (k + 1)) (k + 1) (by omega)
   rwa [show k + 1 + (i - (k + 1)) = i by omega] at this
  ·injection e with e
   have e' : g = q := e
   omega
  ·have := q1 j u hj
   rw [VE h1] at this
   simpa using this
end
end Go.Proofs.YtfneahdnpmamkaaGreat
