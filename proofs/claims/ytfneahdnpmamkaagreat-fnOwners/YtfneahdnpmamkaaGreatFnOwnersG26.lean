/-
  A struct of a drawn row, as it lies. Plain facts: one struct more behind a row that owns its structs. No program is named here. Plain facts: one struct more behind a row that owns its structs, as one operation of a region. No program is named here. Plain facts: one cell of an own row is turned; a record whose time is turned. No program is named here.
-/
import Derived.Test.YtfneahdnpmamkaaGreatFnOwnersG07
namespace Go.Proofs.YtfneahdnpmamkaaGreat
open Go.RowKit
set_option linter.unusedVariables false

theorem A6.here {α : Type} {c : Nat} {T : List TypeId} {D : World → List Value → α → Prop} {d : α} {B E n cap : Nat} {e : TypeId} {w : World} {a : Option Addr} {xs : List α} (hD : Hy c T D) (h : A6 c D d B E e w (.slice a n cap) xs) {i : Nat} (hi : i < xs.length) :
  ∃ q vs, a = some ⟨q, 0, none⟩ ∧ q < w.heap.size ∧ w.rangeAt q (i * c) vs ∧ D w vs (xs.getD i d) := by
 obtain ⟨cs, ho, _, hx⟩ := h
 have ho' := ho
 rcases ho.2 with ⟨_, hn⟩ | ⟨b, cp, cur, hv, hB, hg, hn, hm, hs, ht⟩
 ·omega
 ·obtain ⟨vs, q1, q2⟩ := hx i hi
  simp only [Value.slice.injEq] at hv
  obtain ⟨rfl, rfl, rfl⟩ := hv
  refine ⟨b, vs, rfl, VC hg, fun j u hj => ?_, q2⟩
  have hj7 : j < c := by have := (List.getElem?_eq_some_iff.1 hj).1; rw [hD.cells q2] at this; exact this
  rw [World.ownsRow.cellAt ho' (i * c + j) (Nk hi hj7)]
  exact q1 j u hj
theorem E7.grown {α : Type} {c : Nat} {O : Nat → Nat → World → List Value → α → Prop} (hO : E7 c O) {B e : Nat} {w w' : World} {vs : List Value} {x : α} {row : Option Nat} (h : O B e w vs x) (hg : w.grownBy w' row) (hr : ∀ q, row = some q → q < B ∨ e ≤ q) : O B e w' vs x := by
 cases hrow : row with
 | none =>
  subst hrow
  exact hO.below h (Ch hg)
 | some q =>
  subst hrow
  have u : Ap q (q + 1) w w' := Cx hg (fun k hk => by injection hk with hk; omega)
  have := hr q rfl
  exact hO.outside h u (by omega)
section
variable {α : Type} {c : Nat} {O : Nat → Nat → World → List Value → α → Prop} {d : α} {B E C D : Nat} {e : TypeId} {W w' : World} {v v' : Value} {xs : List α} {x : α} {us : List Value}
theorem RowX.snoc (hO : E7 c O) (h : RowX c O d B E e W v xs) (hE : E ≤ C) (hCD : C ≤ D) (hD : D ≤ W.heap.size) (hr : O C D W us x) (hB : B ≤ C) (hg : W.grownBy w' v.ownBlock) (hw : v'.ownBlock = v.ownBlock ∨ v'.ownBlock = some W.heap.size)
  (ho : ∀ cs, W.ownsRow B e c v xs.length cs → w'.ownsRow B e c v' (xs.length + 1) (cs ++ us)) : RowX c O d B w'.heap.size e w' v' (xs ++ [x]) := by
 obtain ⟨cs, f, g, h0, hq, hx⟩ := h
 have ho' := ho cs h0
 have hlen : cs.length = xs.length * c := h0.1
 have hz := hg.size
 have hvq : ∀ q, v.ownBlock = some q → q < C ∨ D ≤ q := fun q e => by have := hq q e; omega
 refine ⟨cs ++ us, fun i => if i < xs.length then f i else C, fun i => if i < xs.length then g i else D, by rw [List.length_append]; exact ho', fun q e => (World.ownsRow.lt ho' q e).2, fun i hi => ?_⟩
 rw [List.length_append] at hi
 simp only [List.length_cons, List.length_nil] at hi
 by_cases hlt : i < xs.length
 ·obtain ⟨h1, h2, h3, h4, vs, q1, q2⟩ := hx i hlt
  simp only [hlt, if_true]
  have e1 : (xs ++ [x]).getD i d = xs.getD i d := by rw [List.getD_eq_getElem?_getD, List.getElem?_append_left hlt, ← List.getD_eq_getElem?_getD]
  rw [e1]
  refine ⟨h1, by omega, fun k hk => ?_, fun q e => ?_, vs, fun j u hj => ?_, hO.grown q2 hg h4⟩
  ·rw [if_pos (by omega)]
   exact h3 k hk
  ·rcases hw with hw | hw
   ·rw [hw] at e
    exact h4 q e
   ·rw [hw] at e
    injection e with e
    omega
  ·have hjc : j < c := by rw [← hO.cells q2]; exact (List.getElem?_eq_some_iff.1 hj).1
   rw [List.getElem?_append_left (by rw [hlen]; exact Nk hlt hjc)]
   exact q1 j u hj
 ·obtain rfl : i = xs.length := by omega
  simp only [Nat.lt_irrefl, if_false]
  have e1 : (xs ++ [x]).getD xs.length d = x := by rw [List.getD_eq_getElem?_getD]; simp
  rw [e1]
  refine ⟨hB, by omega, fun k hk => ?_, fun q e => ?_, us, fun j u hj => ?_, hO.grown hr hg hvq⟩
  ·rw [if_pos hk]
   have := (hx k hk).2.1
   omega
  ·rcases hw with hw | hw
   ·rw [hw] at e
    exact hvq q e
   ·rw [hw] at e
    injection e with e
    omega
  ·rw [List.getElem?_append_right (by omega), hlen, Nat.add_sub_cancel_left]
   exact hj
theorem RowX.one (hO : E7 c O) {g : Nat} {cs : Array Value} {w : World} (hg : w.heap[g]? = some (.cells cs e)) (hc : cs.toList = us) (hul : us.length = c) (hr : O C D w us x) (hBg : B ≤ g) (hBC : B ≤ C) (hCD : C ≤ D) (hDE : D ≤ E) (hgE : g < E) (hgo : g < C ∨ D ≤ g) : RowX c O d B E e w (.slice (some ⟨g, 0, none⟩) 1 1) [x] := by
 have hs : cs.size = c := by rw [← Array.length_toList, hc, hul]
 refine ⟨us, fun _ => C, fun _ => D, ⟨by simp [hul], .inr ⟨g, 1, cs, rfl, hBg, hg, Nat.le_refl _, by unfold maxLen; omega, by omega, ?_⟩⟩, fun q e => ?_, fun i hi => ?_⟩
 ·rw [hc]
  exact List.take_of_length_le (by simp only [List.length_cons, List.length_nil]; omega)
 ·injection e with e
  have e' : g = q := e
  omega
 ·simp only [List.length_cons, List.length_nil] at hi
  obtain rfl : i = 0 := by omega
  refine ⟨hBC, hDE, fun k hk => absurd hk (Nat.not_lt_zero _), fun q e => ?_, us, fun j u hj => by rwa [Nat.zero_mul, Nat.zero_add], hr⟩
  injection e with e
  have e' : g = q := e
  subst e'
  exact hgo
end
section
variable {P : Program} {w : World}
theorem Vw {t ty e : TypeId} {c bytes : Nat} (ht : P.underlying t = some (.slice e)) {zs : Array Value} (hinfo : (P.info? e).map (fun i => (i.zero, i.size, i.bytes)) = some (some (.agg zs), c, bytes)) (hzs : zs.size = c) (hb : bytes ≤ 1000)
  {base : Nat} {v : Value} {n : Nat} {xs : List Value} (hown : w.ownsRow base e c v n xs) {ad : Addr} {m cap : Nat} {news : List Value} (hl : news.length = m * c) (hc : ∀ j u, news[j]? = some u → w.cell? (ad.add j) = some u) (h1 : ∀ u ∈ news, u.oneCell' = true)
  (hm : 0 < m) (hlen : n + m ≤ 1000000) {v' : Value} {w' : World}
  (hrun : (Builtin.append_ #[t, t] ty #[v, .slice (some ad) m cap]).run P w = .ok v' w') : v'.ownBlock = v.ownBlock ∨ v'.ownBlock = some w.heap.size := by
 obtain ⟨i0, hi, hz0, hz1, hz2⟩ := info_parts hinfo
 have hmb : m * bytes ≤ 1000000 * 1000 := Nat.mul_le_mul (by omega) hb
 have hnb : (n + m) * bytes ≤ 1000000 * 1000 := Nat.mul_le_mul (by omega) hb
 rcases hown.2 with ⟨rfl, h0⟩ | ⟨g, cp, cur, rfl, hbg, hg, hnc, hcm, hcs, htake⟩
 ·rw [run_append_nil (P := P) w t ty e i0 (.agg zs) ht hi hz0 ad m cap news (by rw [hz1]; exact hl) hc hm (by omega) (by rw [hz2]; omega)] at hrun
  simp only [Result.ok.injEq] at hrun
  right; rw [← hrun.1]; rfl
 ·by_cases hroom : n + m ≤ cp
  ·have hsz : n * c + m * c ≤ cp * c := by rw [← Nat.add_mul]; exact Nat.mul_le_mul_right _ hroom
   rw [run_append_room (P := P) w t ty e i0 ht hi g n cp cur hg ad m cap news (by rw [hz1]; exact hl) hc h1 hroom (by rw [hz1, hcs, hl]; exact hsz)] at hrun
   simp only [Result.ok.injEq] at hrun
   left; rw [← hrun.1]; rfl
  ·have holds : ∀ j u, xs[j]? = some u → w.cell? ((⟨g, 0, none⟩ : Addr).add j) = some u := World.ownsRow.cells hown (g := g) rfl
   rw [run_append_grow (P := P) w t ty e i0 (.agg zs) ht hi hz0 ⟨g, 0, none⟩ n cp xs (by rw [hz1]; exact hown.1) holds ad m cap news (by rw [hz1]; exact hl) hc (by omega) (by omega) (growslice_fits (by omega) (by rw [hz2]; omega))] at hrun
   simp only [Result.ok.injEq] at hrun
   right; rw [← hrun.1]; rfl
end
section
variable {P : Program} {w : World}
theorem Sj {o : Oper} {a : Act} {K : Act → World → Prop} {Q : Exit → Act → World → Prop} (s x : Operand) (t e : TypeId)
  (ho : o.op = .call { callee := .builtin .append, args := #[s, x], argTypes := #[t, t] }) (ht : P.underlying t = some (.slice e)) (zs : Array Value) (c bytes : Nat) (hb : bytes ≤ 1000) (hc0 : 0 < c)
  (hinfo : (P.info? e).map (fun i => (i.zero, i.size, i.bytes)) = some (some (.agg zs), c, bytes)) (hzs : zs.size = c)
  (base : Nat) (v : Value) (n : Nat) (hs : a.eval s = v) (g : Nat) (cs : List Value) (hx : a.eval x = .slice (some ⟨g, 0, none⟩) 1 1) (hown : ∃ xs, w.ownsRow base e c v n xs)
  (hg : w.heap[g]? = some (.cells cs.toArray e)) (hcl : cs.length = c) (h1 : ∀ u ∈ cs, u.oneCell' = true) (hlen : n ≤ 1000) (hbase : base ≤ w.heap.size)
  (h : ∀ v' w', (∀ xs, w.ownsRow base e c v n xs → w'.ownsRow base e c v' (n + 1) (xs ++ cs)) → w.grownBy w' v.ownBlock → (v'.ownBlock = v.ownBlock ∨ v'.ownBlock = some w.heap.size) → K (a.put o.dst v') w') : Oper.wp P o a w K Q := by
 obtain ⟨i0, hi, hz0, hz1, hz2⟩ := info_parts hinfo
 have hc : ∀ j u, cs[j]? = some u → w.cell? ((⟨g, 0, none⟩ : Addr).add j) = some u := fun j u hj => by
  rw [Addr.add_lit, Nat.zero_add, VE hg]
  simpa using hj
 have run : ∀ xs, w.ownsRow base e c v n xs → ∃ v' w', (Builtin.append_ #[t, t] o.type #[v, .slice (some ⟨g, 0, none⟩) 1 1]).run P w = .ok v' w' ∧ w'.ownsRow base e c v' (n + 1) (xs ++ cs) ∧ w.grownBy w' v.ownBlock := fun xs hxs => by
  obtain ⟨v', w', h2, h3, h4, _⟩ := run_append_own (P := P) w base t o.type e i0 (.agg zs) c bytes ht hi hz0 hz1 hz2 hzs hc0 v n xs hxs ⟨g, 0, none⟩ 1 1 cs (by rw [hcl, Nat.one_mul]) hc h1 (by unfold maxLen; omega) (Nat.le_trans (Nat.mul_le_mul (show n + 1 ≤ 1001 by omega) hb) (by decide)) hbase
  exact ⟨v', w', h2, h3, h4⟩
 obtain ⟨xs0, hx0⟩ := hown
 obtain ⟨v', w', hr', h2, h3⟩ := run xs0 hx0
 have h4 := Vw ht hinfo hzs hb hx0 (m := 1) (by rw [hcl, Nat.one_mul]) hc h1 (by decide) (by omega) hr'
 have hall : ∀ xs, w.ownsRow base e c v n xs → w'.ownsRow base e c v' (n + 1) (xs ++ cs) := fun xs hxs => by
  obtain ⟨v2, w2, hr2, h22, _⟩ := run xs hxs
  rw [hr'] at hr2
  simp only [Result.ok.injEq] at hr2
  rw [hr2.1, hr2.2]
  exact h22
 unfold Oper.wp execOp
 simp only [ho, resolve, invoke, builtin, Sem.run_bind, Sem.run_pure, Result.andThen_ok, List.map_toArray, List.map_cons, List.map_nil, hs, hx, hr']
 exact h v' w' hall h3 h4
end
theorem Km {B n s : Nat} {e : TypeId} {w : World} {v : Value} {xs : List Value} (h : w.ownsRow B e s v n xs) {k : Nat} (hk : k < n * s) : ∃ q cap cur, v = .slice (some ⟨q, 0, none⟩) n cap ∧ B ≤ q ∧ q < w.heap.size ∧ w.heap[q]? = some (.cells cur e) ∧ n ≤ cap ∧ cap ≤ maxLen ∧ w.frozen? ⟨q, k, none⟩ = false ∧ ∀ z, (w.setCell ⟨q, k, none⟩ z).ownsRow B e s v n (xs.set k z) := by
 have h' := h
 rcases h.2 with ⟨_, h0⟩ | ⟨q, cap, cur, rfl, hB, hg, hn, hm, hs, ht⟩
 ·subst h0
  simp at hk
 ·have hle : n * s ≤ cur.size := by rw [hs]; exact Nat.mul_le_mul_right _ hn
  refine ⟨q, cap, cur, rfl, hB, VC hg, hg, hn, hm, VG hg k, fun z => ?_⟩
  ·refine ⟨by rw [List.length_set]; exact h'.1, .inr ⟨q, cap, _, rfl, hB, UV hg k z, hn, hm, by simpa using hs, ?_⟩⟩
   rw [Array.toList_setIfInBounds, List.take_set, ht]
def ttlR (r : Rec) (y : Int) : Rec := ⟨r.name, r.type, y, r.addr, r.to, r.text, r.nums⟩
theorem Kn {vn vt vx vi : Value} {r : Rec} {y : Int} {xs : List Value} {m i n : Nat} (hm : m < n) (hl : xs.length = n * 7) (h : ∀ j u, (Ah vn vt vx vi r)[j]? = some u → xs[m * 7 + j]? = some u) : ∀ j u, (Ah vn vt vx vi (ttlR r y))[j]? = some u → (xs.set (m * 7 + 2) (.int .i64 y))[m * 7 + j]? = some u := by
 intro j u hj
 have hj7 : j < 7 := by have := (List.getElem?_eq_some_iff.1 hj).1; simpa [Ah] using this
 rw [List.getElem?_set]
 by_cases e : j = 2
 ·subst e
  rw [if_pos rfl, if_pos (by omega)]
  exact hj
 ·rw [if_neg (by omega)]
  refine h j u ?_
  match j, hj7, hj with
  | 0, _, hj => exact hj
  | 1, _, hj => exact hj
  | 2, _, hj => exact absurd rfl e
  | 3, _, hj => exact hj
  | 4, _, hj => exact hj
  | 5, _, hj => exact hj
  | 6, _, hj => exact hj
theorem RowO.ttl {B E : Nat} {er el eb ei : TypeId} {w : World} {v : Value} {rs : List Rec} {m : Nat} (h : RowO B E er el eb ei w v rs) (hm : m < rs.length) :
  ∃ q cap, v = .slice (some ⟨q, 0, none⟩) rs.length cap ∧ B ≤ q ∧ q < w.heap.size ∧ q < E ∧ w.cell? ⟨q, m * 7 + 2, none⟩ = some (.int .i64 (rs.getD m recZ).ttl) ∧ w.frozen? ⟨q, m * 7 + 2, none⟩ = false ∧
   ∀ y, RowO B E er el eb ei (w.setCell ⟨q, m * 7 + 2, none⟩ (.int .i64 y)) v (rs.set m (ttlR (rs.getD m recZ) y)) := by
 obtain ⟨xs, f, g, ho, hq, hx⟩ := h
 have hx' := hx
 obtain ⟨hB1, hE1, hlow, hqk, vn, vt, vx, vi, hcs, hR⟩ := hx m hm
 obtain ⟨q, cap, cur, rfl, hB, hlt, hg, hn, hmx, hfz, hset⟩ := Km ho (k := m * 7 + 2) (by omega)
 have hbs := hqk q rfl
 refine ⟨q, cap, rfl, hB, hlt, hq q rfl, ?_, hfz, fun y => ?_⟩
 ·rw [World.ownsRow.cellAt ho (m * 7 + 2) (by omega)]
  exact hcs 2 _ rfl
 ·have u := UT w q (m * 7 + 2) (.int .i64 y)
  have hl : xs.length = rs.length * 7 := ho.1
  refine RowO.mark (m := m) (xs := xs) (xs' := xs.set (m * 7 + 2) (.int .i64 y)) (f := f) (g := g) (w := w) hm hq hx' (hset _) (fun i j hij hj7 => ?_) (vn := vn) (vt := vt) (vx := vx) (vi := vi) (Kn (i := 0) hm hl hcs) ?_ ?_
  ·rw [List.getElem?_set_ne (by omega)]
  ·exact hR.outside u (by omega)
  ·intro i hi hne un ut ux ui hO
   have := (hx' i hi).2.2.2.1 q rfl
   exact hO.outside u (by omega)
theorem RowQ.ttl {B : Nat} {er el eb ei : TypeId} {w : World} {v : Value} {rs : List Rec} {m : Nat} (h1 : er ≠ el) (h2 : er ≠ eb) (h3 : er ≠ ei) (h : RowQ B er el eb ei w v rs) (hm : m < rs.length) :
  ∃ q cap, v = .slice (some ⟨q, 0, none⟩) rs.length cap ∧ B ≤ q ∧ q < w.heap.size ∧ w.cell? ⟨q, m * 7 + 2, none⟩ = some (.int .i64 (rs.getD m recZ).ttl) ∧ w.frozen? ⟨q, m * 7 + 2, none⟩ = false ∧
   ∀ y, RowQ B er el eb ei (w.setCell ⟨q, m * 7 + 2, none⟩ (.int .i64 y)) v (rs.set m (ttlR (rs.getD m recZ) y)) := by
 obtain ⟨xs, ho, hx⟩ := h
 obtain ⟨vn, vt, vx, vi, hcs, hR⟩ := hx m hm
 obtain ⟨q, cap, cur, rfl, hB, hlt, hg, hn, hmx, hfz, hset⟩ := Km ho (k := m * 7 + 2) (by omega)
 refine ⟨q, cap, rfl, hB, hlt, ?_, hfz, fun y => ?_⟩
 ·rw [World.ownsRow.cellAt ho (m * 7 + 2) (by omega)]
  exact hcs 2 _ rfl
 ·have hl : xs.length = rs.length * 7 := ho.1
  have hgr := Ab w ⟨q, m * 7 + 2, none⟩ (.int .i64 y)
  have off : ∀ {un ut ux ui : Value} {r : Rec}, OwnQ B el eb ei w un ut ux ui r → OwnQ B el eb ei (w.setCell ⟨q, m * 7 + 2, none⟩ (.int .i64 y)) un ut ux ui r := fun hO => hO.offR hgr (fun k e => by cases e; exact ⟨cur, er, hg, h1, h2, h3⟩)
  refine ⟨xs.set (m * 7 + 2) (.int .i64 y), by rw [List.length_set]; exact hset _, fun i hi => ?_⟩
  rw [List.length_set] at hi
  by_cases e : i = m
  ·subst e
   refine ⟨vn, vt, vx, vi, ?_, ?_⟩
   ·rw [List.getD_eq_getElem?_getD, List.getElem?_set_self hi, Option.getD_some]
    exact Kn (i := 0) hi hl hcs
   ·rw [List.getD_eq_getElem?_getD, List.getElem?_set_self hi, Option.getD_some]
    have q := off hR
    exact ⟨q.name, q.to, q.text, q.nums⟩
  ·obtain ⟨un, ut, ux, ui, q1, q2⟩ := hx i hi
   refine ⟨un, ut, ux, ui, ?_, ?_⟩
   ·rw [List.getD_eq_getElem?_getD, List.getElem?_set_ne (Ne.symm e), ← List.getD_eq_getElem?_getD]
    intro j u hj
    have hj7 : j < 7 := by have := (List.getElem?_eq_some_iff.1 hj).1; simpa [Ah] using this
    rw [List.getElem?_set_ne (by omega)]
    exact q1 j u hj
   ·rw [List.getD_eq_getElem?_getD, List.getElem?_set_ne (Ne.symm e), ← List.getD_eq_getElem?_getD]
    exact off q2
end Go.Proofs.YtfneahdnpmamkaaGreat
